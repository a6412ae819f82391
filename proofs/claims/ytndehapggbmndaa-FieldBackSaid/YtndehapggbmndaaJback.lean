/- FieldBack, walked. -/
import Derived.Test.YtndehapggbmndaaJany
namespace Go.Proofs.Ytndehapggbmndaa
open Go.RowKit

set_option maxHeartbeats 12800000 in
theorem fback_walk {w : World} {A D : Option Addr} {n c m d V : Nat} {f h : Nat → Nat} {s t : Bool} {x y z : Int} (hV : V ≤ 18446744073709551615) (hr : Rd w w.heap.size A n c f) (hs : Rd w w.heap.size D m d h) :
    Calls Try.prog 6 #[.int .u64 (V : Int), .int .i64 z, .agg #[.bool s, .slice A n c, .int .i64 x], .agg #[.bool t, .slice D m d, .int .i64 y]] w fun e w' => e = .returned (.bool true) ∧ Below w.heap.size w w' := by
  have hn := hr.max
  have hm := hs.max
  obtain ⟨W, hW⟩ : ∃ W, W = (w.alloc (.cells #[.bool s, .slice A n c, .int .i64 x] 30)).alloc (.cells #[.bool t, .slice D m d, .int .i64 y] 30) := ⟨_, rfl⟩
  have K := hid (show Below w.heap.size w W from hW ▸ ((Below.refl w.heap.size w).alloc (Nat.le_refl _) _).alloc (by simp) _)
  have PA : Hid (Dbox W w.heap.size s (.slice A n c) x) := hid (hW ▸ (Below.heap_alloc _ _ _ (by simp)).trans (heap_alloc_new w _))
  have PB : Hid (Dbox W (w.heap.size + 1) t (.slice D m d) y) := hid (hW ▸ heap_alloc2_new w _ _)
  have RA := hid ((hr.below K.out).mono K.out.size)
  have RB := hid ((hs.below K.out).mono K.out.size)
  have HW := hid hW
  have HV := hid hV
  clear hW hr hs hV
  go_enter Try.func6, Try.ntmps6
  go_upto_region 1 with fail
  rw [← HW.out]
  clear HW
  go_wp2_with fail
  refine (falive_any _).mono ?_
  rintro e w1 ⟨rfl, hb1⟩
  replace K := hid (K.out.trans (hb1.out.mono K.out.size))
  replace PA := hid (PA.out.below hb1.out PA.out.lt)
  replace PB := hid (PB.out.below hb1.out PB.out.lt)
  replace RA := hid ((RA.out.below hb1.out).mono hb1.out.size)
  replace RB := hid ((RB.out.below hb1.out).mono hb1.out.size)
  have PAc0 := PA.out.c0
  have PAc1 := PA.out.c1
  have PAc2 := PA.out.c2
  have PBc0 := PB.out.c0
  have PBc1 := PB.out.c1
  have PBc2 := PB.out.c2
  clear hb1
  go_wp2_with fail
  refine (dgreat_any s A n c x _ hn).mono ?_
  rintro e w2 ⟨rfl, hb2⟩
  clear PAc0 PAc1 PAc2 PBc0 PBc1 PBc2
  replace K := hid (K.out.trans (hb2.out.mono K.out.size))
  replace PA := hid (PA.out.below hb2.out PA.out.lt)
  replace PB := hid (PB.out.below hb2.out PB.out.lt)
  replace RA := hid ((RA.out.below hb2.out).mono hb2.out.size)
  replace RB := hid ((RB.out.below hb2.out).mono hb2.out.size)
  have PAc0 := PA.out.c0
  have PAc1 := PA.out.c1
  have PAc2 := PA.out.c2
  have PBc0 := PB.out.c0
  have PBc1 := PB.out.c1
  have PBc2 := PB.out.c2
  clear hb2
  by_cases hg : 42 < n ∨ 1100 < x
  · rw [bool_of_dec hg]
    clear hg
    go_wp2
    go_ret
    exact ⟨rfl, K.out⟩
  rw [bool_of_not hg]
  go_wp2_with fail
  refine (dgreat_any t D m d y _ hm).mono ?_
  rintro e w3 ⟨rfl, hb3⟩
  clear PAc0 PAc1 PAc2 PBc0 PBc1 PBc2
  replace K := hid (K.out.trans (hb3.out.mono K.out.size))
  replace PA := hid (PA.out.below hb3.out PA.out.lt)
  replace PB := hid (PB.out.below hb3.out PB.out.lt)
  replace RA := hid ((RA.out.below hb3.out).mono hb3.out.size)
  replace RB := hid ((RB.out.below hb3.out).mono hb3.out.size)
  have PAc0 := PA.out.c0
  have PAc1 := PA.out.c1
  have PAc2 := PA.out.c2
  have PBc0 := PB.out.c0
  have PBc1 := PB.out.c1
  have PBc2 := PB.out.c2
  clear hb3
  by_cases hg2 : 42 < m ∨ 1100 < y
  · rw [bool_of_dec hg2]
    clear hg hg2
    go_wp2
    go_ret
    exact ⟨rfl, K.out⟩
  rw [bool_of_not hg2]
  have hn42 : n ≤ 42 := by omega
  have hm42 : m ≤ 42 := by omega
  clear hg hg2
  go_wp2_with fail
  refine (PutDyad_any (By.nul _ _) RA.out).mono ?_
  rintro e w4 ⟨A4, n4, c4, e4, rfl, he4, hO4, hn4, hb4⟩
  clear PAc0 PAc1 PAc2 PBc0 PBc1 PBc2
  replace K := hid (K.out.trans (hb4.out.mono K.out.size))
  replace PA := hid (PA.out.below hb4.out PA.out.lt)
  replace PB := hid (PB.out.below hb4.out PB.out.lt)
  replace RA := hid ((RA.out.below hb4.out).mono hb4.out.size)
  replace RB := hid ((RB.out.below hb4.out).mono hb4.out.size)
  have PAc0 := PA.out.c0
  have PAc1 := PA.out.c1
  have PAc2 := PA.out.c2
  have PBc0 := PB.out.c0
  have PBc1 := PB.out.c1
  have PBc2 := PB.out.c2
  have hY4 := hid hO4.out.by_.2
  rw [List.nil_append] at hY4 hn4
  have hl4 : n4 ≤ 172 := by
    rw [hn4.out]
    split
    · rw [dtx_length]; omega
    · simp
  clear hb4 hO4
  go_wp2_with fail
  refine (PutNumber_any hY4.out HV.out z).mono ?_
  rintro e w5 ⟨A5, n5, c5, e5, rfl, he5, hO5, hn5, hb5⟩
  clear PAc0 PAc1 PAc2 PBc0 PBc1 PBc2
  replace K := hid (K.out.trans (hb5.out.mono K.out.size))
  replace PA := hid (PA.out.below hb5.out PA.out.lt)
  replace PB := hid (PB.out.below hb5.out PB.out.lt)
  replace RA := hid ((RA.out.below hb5.out).mono hb5.out.size)
  replace RB := hid ((RB.out.below hb5.out).mono hb5.out.size)
  have PAc0 := PA.out.c0
  have PAc1 := PA.out.c1
  have PAc2 := PA.out.c2
  have PBc0 := PB.out.c0
  have PBc1 := PB.out.c1
  have PBc2 := PB.out.c2
  have hY5 := hid hO5.out.by_.2
  have hl5 : n5 ≤ 180 := by
    rw [hn5.out]
    split
    · rename_i h0
      have hz : 1 ≤ z ∧ z ≤ 8 := by
        have h1 := he5.out
        rw [h0] at h1
        unfold pnE at h1
        split at h1
        · cases h1
        · rename_i hq
          exact ⟨by omega, by omega⟩
      rw [List.length_append, be_length, hY4.out.len]
      omega
    · simp
  clear hb5 hO5
  go_wp2_with fail
  refine (PutDyad_any hY5.out RB.out).mono ?_
  rintro e w6 ⟨A6, n6, c6, e6, rfl, he6, hO6, hn6, hb6⟩
  clear PAc0 PAc1 PAc2 PBc0 PBc1 PBc2
  replace K := hid (K.out.trans (hb6.out.mono K.out.size))
  replace PA := hid (PA.out.below hb6.out PA.out.lt)
  replace PB := hid (PB.out.below hb6.out PB.out.lt)
  replace RA := hid ((RA.out.below hb6.out).mono hb6.out.size)
  replace RB := hid ((RB.out.below hb6.out).mono hb6.out.size)
  have PAc0 := PA.out.c0
  have PAc1 := PA.out.c1
  have PAc2 := PA.out.c2
  have PBc0 := PB.out.c0
  have PBc1 := PB.out.c1
  have PBc2 := PB.out.c2
  have hY6 := hid hO6.out.by_.2
  have E4 : Hid (e4 = dchk s n f x) := hid (by
    rw [he4.out]
    unfold pdE dchk
    by_cases hd : DMay s n f x
    · rw [if_neg (fun h => h hd), if_neg (by omega), if_pos hd]
    · rw [if_pos hd, if_neg hd])
  have E6 : Hid (e6 = dchk t m h y) := hid (by
    rw [he6.out]
    unfold pdE dchk
    by_cases hd : DMay t m h y
    · rw [if_neg (fun h => h hd), if_neg (by omega), if_pos hd]
    · rw [if_pos hd, if_neg hd])
  clear hb6 hO6
  by_cases h4 : e4 = 0
  case neg =>
    have n4 : (e4 != 0) = true := by simpa using h4
    have q4 : (e4 == e4) = true := by simp
    have C := dcheck_any RA.out s x
    rw [← E4.out] at C
    clear h4 E6 hY6 hY5 hY4 hn4 hn5 hn6
    go_wp2_with fail
    refine C.mono ?_
    rintro e w7 ⟨rfl, hb7⟩
    replace K := hid (K.out.trans (hb7.mono K.out.size))
    clear C hb7
    go_wp2
    go_ret
    exact ⟨rfl, K.out⟩
  subst h4
  by_cases h5 : e5 = 0
  case neg =>
    have n5 : (e5 != 0) = true := by simpa using h5
    have C := dcheck_any RA.out s x
    rw [← E4.out] at C
    clear h5 E6 hY6 hY5 hY4 hn4 hn5 hn6
    go_wp2_with fail
    refine C.mono ?_
    rintro e w7 ⟨rfl, hb7⟩
    replace K := hid (K.out.trans (hb7.mono K.out.size))
    clear C hb7
    go_wp2
    go_ret
    exact ⟨rfl, K.out⟩
  subst h5
  by_cases h6 : e6 = 0
  case neg =>
    have n6' : (e6 != 0) = true := by simpa using h6
    have q6 : (e6 == e6) = true := by simp
    have C := dcheck_any RA.out s x
    rw [← E4.out] at C
    clear h6 hY6 hY5 hY4 hn4 hn5 hn6
    go_wp2_with fail
    refine C.mono ?_
    rintro e w7 ⟨rfl, hb7⟩
    replace RB := hid ((RB.out.below hb7).mono hb7.size)
    replace PB := hid (PB.out.below hb7 PB.out.lt)
    replace K := hid (K.out.trans (hb7.mono K.out.size))
    have C2 := dcheck_any RB.out t y
    rw [← E6.out] at C2
    clear C hb7 PBc0 PBc1 PBc2
    have PBc0 := PB.out.c0
    have PBc1 := PB.out.c1
    have PBc2 := PB.out.c2
    go_wp2_with fail
    refine C2.mono ?_
    rintro e w8 ⟨rfl, hb8⟩
    replace K := hid (K.out.trans (hb8.mono K.out.size))
    clear C2 hb8
    go_wp2
    go_ret
    exact ⟨rfl, K.out⟩
  subst h6
  have M4 : Hid (DMay s n f x) := hid (by
    have h1 := E4.out
    unfold dchk at h1
    split at h1
    · assumption
    · cases h1)
  have M6 : Hid (DMay t m h y) := hid (by
    have h1 := E6.out
    unfold dchk at h1
    split at h1
    · assumption
    · cases h1)
  obtain ⟨X, rfl⟩ : ∃ X : Nat, x = X := ⟨x.toNat, by have := M4.out.2.1; omega⟩
  obtain ⟨Y, rfl⟩ : ∃ Y : Nat, y = Y := ⟨y.toNat, by have := M6.out.2.1; omega⟩
  have hz : Hid (1 ≤ z ∧ z ≤ 8 ∧ V < 256 ^ z.toNat) := hid (by
    have h1 := he5.out
    unfold pnE at h1
    split at h1
    · cases h1
    · rename_i hq
      exact Decidable.not_not.1 hq)
  obtain ⟨k, rfl⟩ : ∃ k : Nat, z = k := ⟨z.toNat, by have := hz.out; omega⟩
  simp only [if_true, Int.toNat_natCast] at hY6 hn6 hz
  obtain ⟨zs, hzs⟩ : ∃ zs, zs = dtx s n f X ++ be V k ++ dtx t m h Y := ⟨_, rfl⟩
  rw [← hzs] at hY6 hn6
  have Hzs := hid hzs
  have T1 := hid (told (be V k ++ dtx t m h Y) M4.out RA.out.lt RA.out.out)
  rw [← List.append_assoc, ← hzs] at T1
  have hk8 : 1 ≤ k ∧ k ≤ 8 := by have := hz.out; omega
  have hd1 : Hid (zs.drop (4 + 4 * n) = be V k ++ dtx t m h Y) := hid (by
    rw [hzs, List.append_assoc, ← dtx_length s n f X]
    exact List.drop_left)
  have hd2 : Hid (zs.drop (4 + 4 * n + k) = dtx t m h Y) := hid (by
    rw [← List.drop_drop, hd1.out]
    exact List.drop_left' (be_length V k))
  have T2 := hid (told (f := h) (s := t) (X := Y) [] M6.out RB.out.lt RB.out.out)
  rw [List.append_nil, ← hd2.out] at T2
  have hl6 : Hid (n6 = 4 + 4 * n + k + (4 + 4 * m)) := hid (by rw [hn6.out, hzs, List.length_append, List.length_append, dtx_length, dtx_length, be_length])
  have hV8 : Hid (bn ((zs.drop (4 + 4 * n)).take k) = V) := hid (by
    rw [hd1.out, List.take_append_of_le_length (by rw [be_length]; exact Nat.le_refl _), be_all]
    exact bn_be hz.out.2.2)
  clear hzs hn6 hn5 hn4 hY5 hY4 he4 he5 he6 E4 E6
  go_wp2_with fail
  refine (Dyad_any hY6.out 0).mono ?_
  rintro e w7 ⟨A7, n7, c7, p7, s7, D7, k7, d7, x7, e7, f7, rfl, he7, hX7, hp7, hM7, hV7, hz7, hb7⟩
  clear PAc0 PAc1 PAc2 PBc0 PBc1 PBc2
  replace K := hid (K.out.trans (hb7.out.mono K.out.size))
  replace PA := hid (PA.out.below hb7.out PA.out.lt)
  replace PB := hid (PB.out.below hb7.out PB.out.lt)
  replace RA := hid ((RA.out.below hb7.out).mono hb7.out.size)
  replace RB := hid ((RB.out.below hb7.out).mono hb7.out.size)
  have PAc0 := PA.out.c0
  have PAc1 := PA.out.c1
  have PAc2 := PA.out.c2
  have PBc0 := PB.out.c0
  have PBc1 := PB.out.c1
  have PBc2 := PB.out.c2
  obtain rfl : e7 = 0 := by
    rw [he7.out]
    unfold dEr
    rw [if_pos (by omega)]
    exact T1.out.2.2.2.2
  have hn7 := hX7.out.len
  simp only [if_true] at hX7 hp7 hn7
  have hl7 : n7 = n6 := by rw [← hn7, hY6.out.len]
  subst hl7
  obtain ⟨hs7, hk7, hf7, hx7⟩ := hV7.out rfl
  have e7s : s7 = s := by
    rw [hs7]
    show decide (sgOf zs = 1) = s
    rw [T1.out.1]
    cases s <;> rfl
  have e7k : k7 = n := hk7.trans T1.out.2.1
  have e7f : f7 = f := hf7.trans T1.out.2.2.2.1
  have e7x : x7 = (X : Int) := hx7.trans (by show ((expOf zs : Nat) : Int) = _; rw [T1.out.2.2.1])
  subst e7s e7k e7f e7x
  have e7p : p7 = ((4 + 4 * k7 : Nat) : Int) := by
    rw [hp7.out]
    show 0 + (4 + 4 * ((cntOf zs : Nat) : Int)) = _
    rw [T1.out.2.1]
    omega
  obtain ⟨q1, hq1⟩ : ∃ q1, q1 = 4 + 4 * k7 := ⟨_, rfl⟩
  rw [← hq1] at e7p hd1 hd2 T2 hl6 hV8
  subst e7p
  have HX := hid (hX7.out.mono hb7.out.size)
  have hM := hid (hM7.out.rd)
  have Hq1 := hid hq1
  clear hX7 hM7 hV7 hz7 he7 hp7 hb7 hs7 hk7 hf7 hx7 hY6 T1 hn7 hq1
  go_wp2_with fail
  have ha := hid (((Below.refl w7.heap.size w7).alloc (Nat.le_refl _) (.cells #[.slice A7 n7 c7, .int .i64 (q1 : Int)] 32)).alloc (by simp) (.cells #[.bool s7, .slice D7 k7 d7, .int .i64 (X : Int)] 30))
  clear PAc0 PAc1 PAc2 PBc0 PBc1 PBc2
  replace K := hid (K.out.trans (ha.out.mono K.out.size))
  replace PA := hid (PA.out.below ha.out PA.out.lt)
  replace PB := hid (PB.out.below ha.out PB.out.lt)
  replace RA := hid ((RA.out.below ha.out).mono ha.out.size)
  replace RB := hid ((RB.out.below ha.out).mono ha.out.size)
  replace HX := hid ((HX.out.below ha.out).mono ha.out.size)
  replace hM := hid ((hM.out.below ha.out).mono ha.out.size)
  have PAc0 := PA.out.c0
  have PAc1 := PA.out.c1
  have PAc2 := PA.out.c2
  have PBc0 := PB.out.c0
  have PBc1 := PB.out.c1
  have PBc2 := PB.out.c2
  have PC : Hid (Dbox _ (w7.heap.size + 1) s7 (.slice D7 k7 d7) (X : Int)) := heap_alloc2_new w7 (.cells #[.slice A7 n7 c7, .int .i64 (q1 : Int)] 32) (.cells #[.bool s7, .slice D7 k7 d7, .int .i64 (X : Int)] 30)
  clear ha
  refine (Number_any HX.out (q1 : Int) (k : Int)).mono ?_
  rintro e w8 ⟨A8, n8, c8, V8, e8, p8, rfl, he8, hX8, hp8, hV9, hb8⟩
  clear PAc0 PAc1 PAc2 PBc0 PBc1 PBc2
  replace K := hid (K.out.trans (hb8.out.mono K.out.size))
  replace PA := hid (PA.out.below hb8.out PA.out.lt)
  replace PB := hid (PB.out.below hb8.out PB.out.lt)
  replace RA := hid ((RA.out.below hb8.out).mono hb8.out.size)
  replace RB := hid ((RB.out.below hb8.out).mono hb8.out.size)
  replace HX := hid ((HX.out.below hb8.out).mono hb8.out.size)
  replace hM := hid ((hM.out.below hb8.out).mono hb8.out.size)
  replace PC := hid (PC.out.below hb8.out PC.out.lt)
  have PAc0 := PA.out.c0
  have PAc1 := PA.out.c1
  have PAc2 := PA.out.c2
  have PBc0 := PB.out.c0
  have PBc1 := PB.out.c1
  have PBc2 := PB.out.c2
  have PCc0 := PC.out.c0
  have PCc1 := PC.out.c1
  have PCc2 := PC.out.c2
  obtain rfl : e8 = 0 := by
    rw [he8.out]
    unfold nE
    rw [if_neg (by have := hl6.out; omega), if_neg (by omega), if_neg (by have := hl6.out; omega)]
  have hn8 := hX8.out.len
  simp only [if_true, Int.toNat_natCast] at hX8 hp8 hn8 hV9
  have hl8 : n8 = n7 := by rw [← hn8, HX.out.len]
  subst hl8
  obtain rfl : V8 = V := hV9.out.trans hV8.out
  obtain ⟨q2, hq2⟩ : ∃ q2, q2 = q1 + k := ⟨_, rfl⟩
  have e8p : p8 = ((q2 : Nat) : Int) := by rw [hp8.out, hq2]; omega
  subst e8p
  have hX9 := hid (hX8.out.mono hb8.out.size)
  rw [← hq2] at hl6 hd2 T2
  have Hq2 := hid hq2
  clear hX8 hV9 he8 hp8 hb8 hn8 hV8 hd1 hq2 HX
  go_wp2_with fail
  have ha := hid ((Below.refl w8.heap.size w8).alloc (Nat.le_refl _) (.cells #[.slice A8 n8 c8, .int .i64 (q2 : Int)] 32))
  clear PAc0 PAc1 PAc2 PBc0 PBc1 PBc2 PCc0 PCc1 PCc2
  replace K := hid (K.out.trans (ha.out.mono K.out.size))
  replace PA := hid (PA.out.below ha.out PA.out.lt)
  replace PB := hid (PB.out.below ha.out PB.out.lt)
  replace RA := hid ((RA.out.below ha.out).mono ha.out.size)
  replace RB := hid ((RB.out.below ha.out).mono ha.out.size)
  replace hM := hid ((hM.out.below ha.out).mono ha.out.size)
  replace PC := hid (PC.out.below ha.out PC.out.lt)
  replace hX9 := hid ((hX9.out.below ha.out).mono ha.out.size)
  have PAc0 := PA.out.c0
  have PAc1 := PA.out.c1
  have PAc2 := PA.out.c2
  have PBc0 := PB.out.c0
  have PBc1 := PB.out.c1
  have PBc2 := PB.out.c2
  have PCc0 := PC.out.c0
  have PCc1 := PC.out.c1
  have PCc2 := PC.out.c2
  have PS : Hid (Rbox _ 32 w8.heap.size A8 n8 c8 (q2 : Int)) := heap_alloc_new w8 (.cells #[.slice A8 n8 c8, .int .i64 (q2 : Int)] 32)
  clear ha
  refine (Dyad_any hX9.out (q2 : Int)).mono ?_
  rintro e w9 ⟨A9, n9, c9, p9, s9, D9, k9, d9, x9, e9, f9, rfl, he9, hX10, hp9, hM9, hV9, hz9, hb9⟩
  clear PAc0 PAc1 PAc2 PBc0 PBc1 PBc2 PCc0 PCc1 PCc2
  replace K := hid (K.out.trans (hb9.out.mono K.out.size))
  replace PA := hid (PA.out.below hb9.out PA.out.lt)
  replace PB := hid (PB.out.below hb9.out PB.out.lt)
  replace RA := hid ((RA.out.below hb9.out).mono hb9.out.size)
  replace RB := hid ((RB.out.below hb9.out).mono hb9.out.size)
  replace hM := hid ((hM.out.below hb9.out).mono hb9.out.size)
  replace PC := hid (PC.out.below hb9.out PC.out.lt)
  replace hX9 := hid ((hX9.out.below hb9.out).mono hb9.out.size)
  replace PS := hid (PS.out.below hb9.out PS.out.lt)
  have PAc0 := PA.out.c0
  have PAc1 := PA.out.c1
  have PAc2 := PA.out.c2
  have PBc0 := PB.out.c0
  have PBc1 := PB.out.c1
  have PBc2 := PB.out.c2
  have PCc0 := PC.out.c0
  have PCc1 := PC.out.c1
  have PCc2 := PC.out.c2
  have PSc0 := PS.out.c0
  have PSc1 := PS.out.c1
  obtain rfl : e9 = 0 := by
    rw [he9.out]
    unfold dEr
    rw [if_pos (by have := hl6.out; omega), Int.toNat_natCast]
    exact T2.out.2.2.2.2
  have hn9 := hX10.out.len
  simp only [if_true, Int.toNat_natCast] at hX10 hp9 hn9
  have hl9 : n9 = n8 := by rw [← hn9, hX9.out.len]
  subst hl9
  obtain ⟨hs9, hk9, hf9, hx9⟩ := hV9.out rfl
  rw [Int.toNat_natCast] at hs9 hk9 hf9 hx9
  have e9s : s9 = t := by
    rw [hs9, T2.out.1]
    cases t <;> rfl
  have e9k : k9 = m := hk9.trans T2.out.2.1
  have e9f : f9 = h := hf9.trans T2.out.2.2.2.1
  have e9x : x9 = (Y : Int) := hx9.trans (by rw [T2.out.2.2.1])
  subst e9s e9k e9f e9x
  have e9p : p9 = (n9 : Int) := by
    rw [hp9.out, T2.out.2.1, hl6.out]
    omega
  subst e9p
  have hM2 := hid hM9.out.rd
  have hmax := hX10.out.max
  have hq2l : ¬ (q2 : Int) = (n9 : Int) := by have := hl6.out; omega
  clear hX10 hM9 hV9 hz9 he9 hp9 hb9 hs9 hk9 hf9 hx9 T2 hn9 hX9 hd2
  go_upto_region 12 with fail
  obtain ⟨Wz, hWz⟩ : ∃ Wz, Wz = (w9.alloc (.cells #[.slice A9 n9 c9, .int .i64 (n9 : Int)] 32)).alloc (.cells #[.bool s9, .slice D9 k9 d9, .int .i64 (Y : Int)] 30) := ⟨_, rfl⟩
  rw [← hWz]
  have ha : Hid (Below w9.heap.size w9 Wz) := hid (hWz ▸ ((Below.refl w9.heap.size w9).alloc (Nat.le_refl _) (.cells #[.slice A9 n9 c9, .int .i64 (n9 : Int)] 32)).alloc (by simp) (.cells #[.bool s9, .slice D9 k9 d9, .int .i64 (Y : Int)] 30))
  have PD : Hid (Dbox Wz (w9.heap.size + 1) s9 (.slice D9 k9 d9) (Y : Int)) := hid (hWz ▸ heap_alloc2_new w9 (.cells #[.slice A9 n9 c9, .int .i64 (n9 : Int)] 32) (.cells #[.bool s9, .slice D9 k9 d9, .int .i64 (Y : Int)] 30))
  have PT : Hid (Rbox Wz 32 w9.heap.size A9 n9 c9 (n9 : Int)) := hid (hWz ▸ (Below.heap_alloc _ (.cells #[.bool s9, .slice D9 k9 d9, .int .i64 (Y : Int)] 30) _ (by simp)).trans (heap_alloc_new w9 (.cells #[.slice A9 n9 c9, .int .i64 (n9 : Int)] 32)))
  clear hWz
  clear PAc0 PAc1 PAc2 PBc0 PBc1 PBc2 PCc0 PCc1 PCc2 PSc0 PSc1
  replace K := hid (K.out.trans (ha.out.mono K.out.size))
  replace PA := hid (PA.out.below ha.out PA.out.lt)
  replace PB := hid (PB.out.below ha.out PB.out.lt)
  replace RA := hid ((RA.out.below ha.out).mono ha.out.size)
  replace RB := hid ((RB.out.below ha.out).mono ha.out.size)
  replace hM := hid ((hM.out.below ha.out).mono ha.out.size)
  replace PC := hid (PC.out.below ha.out PC.out.lt)
  replace PS := hid (PS.out.below ha.out PS.out.lt)
  replace hM2 := hid ((hM2.out.below ha.out).mono ha.out.size)
  have PAc0 := PA.out.c0
  have PAc1 := PA.out.c1
  have PAc2 := PA.out.c2
  have PBc0 := PB.out.c0
  have PBc1 := PB.out.c1
  have PBc2 := PB.out.c2
  have PCc0 := PC.out.c0
  have PCc1 := PC.out.c1
  have PCc2 := PC.out.c2
  have PSc0 := PS.out.c0
  have PSc1 := PS.out.c1
  clear ha
  go_wp2_with fail
  refine (dsame_raw hM.out RA.out (P := True) (hid ⟨fun _ => ⟨rfl, rfl, rfl, fun _ => rfl⟩, fun _ => trivial⟩)).mono ?_
  rintro e w10 ⟨r1, rfl, hr1, hb10⟩
  obtain rfl : r1 = true := hr1.out.2 trivial
  clear PAc0 PAc1 PAc2 PBc0 PBc1 PBc2 PCc0 PCc1 PCc2 PSc0 PSc1
  replace K := hid (K.out.trans (hb10.out.mono K.out.size))
  replace PA := hid (PA.out.below hb10.out PA.out.lt)
  replace PB := hid (PB.out.below hb10.out PB.out.lt)
  replace RA := hid ((RA.out.below hb10.out).mono hb10.out.size)
  replace RB := hid ((RB.out.below hb10.out).mono hb10.out.size)
  replace hM := hid ((hM.out.below hb10.out).mono hb10.out.size)
  replace PC := hid (PC.out.below hb10.out PC.out.lt)
  replace PS := hid (PS.out.below hb10.out PS.out.lt)
  replace hM2 := hid ((hM2.out.below hb10.out).mono hb10.out.size)
  replace PD := hid (PD.out.below hb10.out PD.out.lt)
  replace PT := hid (PT.out.below hb10.out PT.out.lt)
  have PAc0 := PA.out.c0
  have PAc1 := PA.out.c1
  have PAc2 := PA.out.c2
  have PBc0 := PB.out.c0
  have PBc1 := PB.out.c1
  have PBc2 := PB.out.c2
  have PCc0 := PC.out.c0
  have PCc1 := PC.out.c1
  have PCc2 := PC.out.c2
  have PSc0 := PS.out.c0
  have PSc1 := PS.out.c1
  have PDc0 := PD.out.c0
  have PDc1 := PD.out.c1
  have PDc2 := PD.out.c2
  have PTc0 := PT.out.c0
  have PTc1 := PT.out.c1
  clear hr1 hb10
  go_wp2_with fail
  refine (dsame_raw hM2.out RB.out (P := True) (hid ⟨fun _ => ⟨rfl, rfl, rfl, fun _ => rfl⟩, fun _ => trivial⟩)).mono ?_
  rintro e w11 ⟨r2, rfl, hr2, hb11⟩
  obtain rfl : r2 = true := hr2.out.2 trivial
  clear PAc0 PAc1 PAc2 PBc0 PBc1 PBc2 PCc0 PCc1 PCc2 PSc0 PSc1 PDc0 PDc1 PDc2 PTc0 PTc1
  replace K := hid (K.out.trans (hb11.out.mono K.out.size))
  replace PA := hid (PA.out.below hb11.out PA.out.lt)
  replace PB := hid (PB.out.below hb11.out PB.out.lt)
  replace RA := hid ((RA.out.below hb11.out).mono hb11.out.size)
  replace RB := hid ((RB.out.below hb11.out).mono hb11.out.size)
  replace hM := hid ((hM.out.below hb11.out).mono hb11.out.size)
  replace PC := hid (PC.out.below hb11.out PC.out.lt)
  replace PS := hid (PS.out.below hb11.out PS.out.lt)
  replace hM2 := hid ((hM2.out.below hb11.out).mono hb11.out.size)
  replace PD := hid (PD.out.below hb11.out PD.out.lt)
  replace PT := hid (PT.out.below hb11.out PT.out.lt)
  have PAc0 := PA.out.c0
  have PAc1 := PA.out.c1
  have PAc2 := PA.out.c2
  have PBc0 := PB.out.c0
  have PBc1 := PB.out.c1
  have PBc2 := PB.out.c2
  have PCc0 := PC.out.c0
  have PCc1 := PC.out.c1
  have PCc2 := PC.out.c2
  have PSc0 := PS.out.c0
  have PSc1 := PS.out.c1
  have PDc0 := PD.out.c0
  have PDc1 := PD.out.c1
  have PDc2 := PD.out.c2
  have PTc0 := PT.out.c0
  have PTc1 := PT.out.c1
  clear hr2 hb11
  go_wp2_with fail
  refine (Done_any A9 n9 c9 (n9 : Int) _ hmax).mono ?_
  rw [bool_of_dec rfl]
  rintro e w12 ⟨rfl, hb12⟩
  clear PAc0 PAc1 PAc2 PBc0 PBc1 PBc2 PCc0 PCc1 PCc2 PSc0 PSc1 PDc0 PDc1 PDc2 PTc0 PTc1
  replace K := hid (K.out.trans (hb12.out.mono K.out.size))
  replace PA := hid (PA.out.below hb12.out PA.out.lt)
  replace PB := hid (PB.out.below hb12.out PB.out.lt)
  replace RA := hid ((RA.out.below hb12.out).mono hb12.out.size)
  replace RB := hid ((RB.out.below hb12.out).mono hb12.out.size)
  replace hM := hid ((hM.out.below hb12.out).mono hb12.out.size)
  replace PC := hid (PC.out.below hb12.out PC.out.lt)
  replace PS := hid (PS.out.below hb12.out PS.out.lt)
  replace hM2 := hid ((hM2.out.below hb12.out).mono hb12.out.size)
  replace PD := hid (PD.out.below hb12.out PD.out.lt)
  replace PT := hid (PT.out.below hb12.out PT.out.lt)
  have PAc0 := PA.out.c0
  have PAc1 := PA.out.c1
  have PAc2 := PA.out.c2
  have PBc0 := PB.out.c0
  have PBc1 := PB.out.c1
  have PBc2 := PB.out.c2
  have PCc0 := PC.out.c0
  have PCc1 := PC.out.c1
  have PCc2 := PC.out.c2
  have PSc0 := PS.out.c0
  have PSc1 := PS.out.c1
  have PDc0 := PD.out.c0
  have PDc1 := PD.out.c1
  have PDc2 := PD.out.c2
  have PTc0 := PT.out.c0
  have PTc1 := PT.out.c1
  clear hb12
  go_wp2_with fail
  refine (Done_any _ _ _ (q2 : Int) _ hmax).mono ?_
  rw [bool_of_not hq2l]
  rintro e w13 ⟨rfl, hb13⟩
  clear PAc0 PAc1 PAc2 PBc0 PBc1 PBc2 PCc0 PCc1 PCc2 PSc0 PSc1 PDc0 PDc1 PDc2 PTc0 PTc1
  replace K := hid (K.out.trans (hb13.out.mono K.out.size))
  replace PA := hid (PA.out.below hb13.out PA.out.lt)
  replace PB := hid (PB.out.below hb13.out PB.out.lt)
  replace RA := hid ((RA.out.below hb13.out).mono hb13.out.size)
  replace RB := hid ((RB.out.below hb13.out).mono hb13.out.size)
  replace hM := hid ((hM.out.below hb13.out).mono hb13.out.size)
  replace PC := hid (PC.out.below hb13.out PC.out.lt)
  replace PS := hid (PS.out.below hb13.out PS.out.lt)
  replace hM2 := hid ((hM2.out.below hb13.out).mono hb13.out.size)
  replace PD := hid (PD.out.below hb13.out PD.out.lt)
  replace PT := hid (PT.out.below hb13.out PT.out.lt)
  have PAc0 := PA.out.c0
  have PAc1 := PA.out.c1
  have PAc2 := PA.out.c2
  have PBc0 := PB.out.c0
  have PBc1 := PB.out.c1
  have PBc2 := PB.out.c2
  have PCc0 := PC.out.c0
  have PCc1 := PC.out.c1
  have PCc2 := PC.out.c2
  have PSc0 := PS.out.c0
  have PSc1 := PS.out.c1
  have PDc0 := PD.out.c0
  have PDc1 := PD.out.c1
  have PDc2 := PD.out.c2
  have PTc0 := PT.out.c0
  have PTc1 := PT.out.c1
  clear hb13
  go_wp2
  go_ret
  exact ⟨rfl, K.out⟩

theorem fback_walk' {w : World} {A D : Option Addr} {n c m d : Nat} {f h : Nat → Nat} {s t : Bool} {v x y z : Int} (hv : 0 ≤ v ∧ v ≤ 18446744073709551615) (hr : Rd w w.heap.size A n c f) (hs : Rd w w.heap.size D m d h) :
    Calls Try.prog 6 #[.int .u64 v, .int .i64 z, .agg #[.bool s, .slice A n c, .int .i64 x], .agg #[.bool t, .slice D m d, .int .i64 y]] w fun e w' => e = .returned (.bool true) ∧ Below w.heap.size w w' := by
  obtain ⟨V, rfl⟩ : ∃ V : Nat, v = V := ⟨v.toNat, by omega⟩
  exact fback_walk (by omega) hr hs

end Go.Proofs.Ytndehapggbmndaa
