/- The document's fields: Text, PutDyad. -/
import Derived.Test.YtmaggpigodkhhaaJrput
import Derived.Deep.RegionHeld3
import Derived.Deep.AppendLies
namespace Go.Proofs.Ytmaggpigodkhhaa
open Go.RowKit

/-- 'append(x, y...)' over bytes, at a step of a region that draws its order. -/
theorem step_app_bytes {ops : Array Oper} {o : Oper} {a : Act} {K : Act → World → Prop} {Q : Exit → Act → World → Prop} {E : Prop} (hgd : o.guard = none) (s x : Operand)
    (ho : o.op = .call { callee := .builtin .append, args := #[s, x], argTypes := #[22, 22] }) {w : World} {B B' m c : Nat} {v : Value} {xs ys : List Nat} {A : Option Addr} (hs : a.eval s = v) (hx : a.eval x = .slice A m c)
    (hown : Ow w B v xs) (hB : B ≤ w.heap.size) (hy : By w B' A m c ys) (hm : 0 < m) (hn : xs.length + m ≤ 17592186044416)
    (h : ∀ v' w', Hid (Ow w' B v' (xs ++ ys)) → Hid (Below B w w') → K (a.put o.dst v') w') : if Region.wanted o (yielded ops a.tmps) = true then Oper.wp Try.prog o a w K Q else E := by
  obtain ⟨i, hi, hz, hsz, hby⟩ := info_one u8_info
  obtain ⟨b, off, rfl, -, -⟩ := hy.at_ hm
  refine step_append_lies w hgd s x 22 ho B 5 i (.int .u8 0) 1 1 (by kernel_rfl) hi hz hsz hby rfl (by decide) v xs.length (vals xs) hs hown.1 ⟨b, off, none⟩ m c (vals ys) hx (by rw [vals_length, hy.len, Nat.mul_one]) (hy.cells _ rfl) (fun u hu => vals_one hu) hm (by unfold maxLen; omega) (by omega) hB _ rfl ?_
  intro g cap w' h1 h2 h3 h4
  refine h _ w' (hid ⟨?_, ?_, ?_⟩) (hid ((Below.refl _ _).grown h2 hB ?_))
  · rw [List.length_append, hy.len, vals_append]
    exact h1
  · intro y hy2
    rcases List.mem_append.1 hy2 with h1 | h1
    · exact hown.2.1 y h1
    · exact hy.lt y h1
  · rw [List.length_append, hy.len]
    omega
  · intro k hk
    rcases hown.1 with ⟨_, ⟨rfl, _⟩ | ⟨g', cap', cur, rfl, hg, _⟩⟩
    · cases hk
    · injection hk with hk
      subst hk
      exact hg


set_option maxRecDepth 100000 in
set_option maxHeartbeats 6400000 in
theorem rText_false {w : World} {n c X : Nat} {A : Option Addr} {f : Nat → Nat} (hr : Rd w w.heap.size A n c f) (hn : n ≤ 40) (hX : X ≤ 1024) :
    Calls Try.prog 29 #[.agg #[.bool false, .slice A n c, .int .i64 (X : Int)]] w fun e w' => ∃ A' n' c', e = .returned (.slice A' n' c') ∧ Hid (n' = 4 + 4 * n) ∧ Hid (By w' w'.heap.size A' n' c' (dtx false n f X)) ∧ Hid (Below w.heap.size w w') := by
  obtain ⟨W, hW⟩ : ∃ W, W = w.alloc (.cells #[.bool false, .slice A n c, .int .i64 (X : Int)] 26) := ⟨_, rfl⟩
  have B0 := hid (show Below w.heap.size w W from hW ▸ (Below.refl w.heap.size w).alloc (Nat.le_refl _) _)
  have P0 : Hid (Dbox W w.heap.size false (.slice A n c) (X : Int)) := hid (hW ▸ heap_alloc_new w _)
  have R0 := hid ((hr.below B0.out).mono B0.out.size)
  have HW := hid hW
  have hcap := hr.cap
  have b0 := P0.out.c0
  have b1 := P0.out.c1
  have b2 := P0.out.c2
  have hlt := P0.out.lt
  have hwX : IntKind.u64.wrap (X : Int) = (X : Int) := by rw [IntKind.wrap_u64]; omega
  have hwn : IntKind.u64.wrap (n : Int) = (n : Int) := by rw [IntKind.wrap_u64]; omega
  have C1 : Hid (∀ w, Calls Try.prog 23 #[.int .u64 0, .int .i64 1] w fun e w' => ∃ A c, e = .returned (.slice A 1 c) ∧ Hid (Ow w' w.heap.size (.slice A 1 c) (be 0 1)) ∧ Hid (By w' w'.heap.size A 1 c (be 0 1)) ∧ Hid (Below w.heap.size w w')) := hid (fun w => rDigits_any (V := 0) (z := 1) (by omega) (by omega))
  have C2 : Hid (∀ w, Calls Try.prog 23 #[.int .u64 (X : Int), .int .i64 2] w fun e w' => ∃ A c, e = .returned (.slice A 2 c) ∧ Hid (Ow w' w.heap.size (.slice A 2 c) (be X 2)) ∧ Hid (By w' w'.heap.size A 2 c (be X 2)) ∧ Hid (Below w.heap.size w w')) := hid (fun w => rDigits_any (z := 2) (by omega) (by omega))
  clear hW hr
  go_enter Try.func29, Try.ntmps29
  go_upto_region 1 with fail
  rw [← HW.out]
  clear HW
  go_upto_region 4 with fail
  go_cut [4] (fun v wx => ∃ A4 c4, v = .slice A4 3 c4 ∧ Hid (Ow wx W.heap.size (.slice A4 3 c4) (be 0 1 ++ be X 2)) ∧ Hid (Below W.heap.size W wx))
  case first =>
    have HBz := hid ((Below.refl W.heap.size W).drew)
    have CF : Hid (∀ w', Below W.heap.size W w' → w'.cell? ⟨w.heap.size, 2, none⟩ = some (.int .i64 (X : Int))) := hid (fun w' hb => (P0.out.below hb hlt).c2)
    have bd2 := CF.out _ HBz.out
    go_region_law (first
      | (refine step_app_bytes rfl (.tmp 9) (.tmp 13) rfl rfl rfl O9.out HBz.out.size Y3.out (by omega) (by simp [be_length]) ?_; intro v' w' hO' hb'; have HBz := hid (HBz.out.trans hb'.out))
      | (go_simp
         go_at_call_of 23 (Value.int IntKind.u64 0)
         with_reducible refine (C1.out _).mono ?_
         rintro e wa ⟨A9, c9, rfl, O9, Y9, hb9⟩
         replace O9 := hid (O9.out.mono HBz.out.size)
         have HBz := hid (HBz.out.trans (hb9.out.mono HBz.out.size))
         have bd2 := CF.out _ HBz.out
         try (replace Y3 := hid ((Y3.out.below hb9.out).mono hb9.out.size)))
      | (go_simp
         go_at_call_of 23 (Value.int IntKind.u64 (X : Int))
         with_reducible refine (C2.out _).mono ?_
         rintro e wb ⟨A3, c3, rfl, O3, Y3, hb3⟩
         have HBz := hid (HBz.out.trans (hb3.out.mono HBz.out.size))
         have bd2 := CF.out _ HBz.out
         try (replace O9 := hid (O9.out.below hb3.out (Nat.le_refl _)))))
    all_goals
      obtain ⟨A4, c4, hv, hY⟩ := hO'.out.shape
      rw [List.length_append, be_length, be_length] at hv
      subst hv
      go_wp2_with fail
      go_meet
      exact ⟨A4, c4, rfl, hO', HBz⟩
  obtain ⟨A4, c4, rfl, hO4, hb4⟩ := hcut
  have Q4 := hid (P0.out.below hb4.out hlt)
  have e0 := Q4.out.c0
  have e1 := Q4.out.c1
  have e2 := Q4.out.c2
  clear b0 b1 b2
  go_wp2_with fail
  refine (rDigits_any (V := n) (z := 1) (by omega) (by omega)).mono ?_
  rintro e w5 ⟨A5, c5, rfl, -, hY5, hb5⟩
  have K5 := hid (hb4.out.trans (hb5.out.mono hb4.out.size))
  have hO5 := hid (hO4.out.below hb5.out (Nat.le_refl _))
  have Q5 := hid (P0.out.below K5.out hlt)
  have b0 := Q5.out.c0
  have b1 := Q5.out.c1
  have b2 := Q5.out.c2
  clear e0 e1 e2
  go_wp2_with (at_builtin; refine app_bytes rfl (.tmp 15) (.tmp 20) rfl rfl rfl hO5.out K5.out.size hY5.out (by simp [be_length]) ?_; intro v6 w6 hO6 hb6; have K6 := hid (K5.out.trans hb6.out); have Q6 := hid (P0.out.below K6.out hlt); have f0 := Q6.out.c0; have f1 := Q6.out.c1; have f2 := Q6.out.c2)
  go_loopw [4, 5] (fun a i wr => ∃ k : Nat, k ≤ n ∧ i = .int .i64 k ∧ Hid (Ow wr W.heap.size a (be 0 1 ++ be X 2 ++ be n 1 ++ lms f k)) ∧ Hid (Below W.heap.size W wr)) (fun _ i _ => n - (intOf i).toNat)
  case atStart => exact ⟨0, by omega, rfl, hid (by rw [show lms f 0 = [] from rfl, List.append_nil]; exact hO6.out), K6⟩
  case round =>
    obtain ⟨k, hk, rfl, hO, hb⟩ := hrel
    have Qr := hid (P0.out.below hb.out hlt)
    have c1 := Qr.out.c1
    clear b0 b1 b2 f0 f1 f2
    by_cases hcon : k < n
    · have hRr := R0.out.below hb.out
      obtain ⟨b, off, rfl, hbB, hc⟩ := hRr.at_ (by omega)
      have hcell := hc k hcon
      have hxl := R0.out.lt k
      have hnext : Hid (be 0 1 ++ be X 2 ++ be n 1 ++ lms f (k + 1) = be 0 1 ++ be X 2 ++ be n 1 ++ lms f k ++ be (f k) 4) := hid (List.append_assoc _ (lms f k) (be (f k) 4)).symm
      generalize f k = x at *
      have hlen : (be 0 1 ++ be X 2 ++ be n 1 ++ lms f k).length ≤ 1000 := by simp only [List.length_append, be_length, lms_length]; omega
      clear hc hRr
      go_wp2_with fail
      refine (rDigits_any (V := x) (z := 4) (by omega) (by omega)).mono ?_
      rintro e w7 ⟨A7, c7, rfl, -, hY7, hb7⟩
      have K7 := hid (hb.out.trans (hb7.out.mono hb.out.size))
      have hO7 := hid (hO.out.below hb7.out (Nat.le_refl _))
      go_wp2_with (at_builtin; refine app_bytes rfl (.tmp 29) (.tmp 36) rfl rfl rfl hO7.out K7.out.size hY7.out (by omega) ?_; intro v8 w8 hO8 hb8)
      go_roundw
      case rel => exact ⟨k + 1, by omega, by go_num, hid (by rw [hnext.out]; exact hO8.out), hid (K7.out.trans hb8.out)⟩
      case measure => simp [intOf]; omega
    · obtain rfl : k = n := by omega
      obtain ⟨A8, c8, hv, hY⟩ := hO.out.shape
      have hl : (be 0 1 ++ be X 2 ++ be k 1 ++ lms f k).length = 4 + 4 * k := by simp only [List.length_append, be_length, lms_length]
      rw [hl] at hv hY
      subst hv
      have HY := hid hY
      clear hY
      go_wp2
      go_ret
      exact ⟨A8, _, c8, rfl, rfl, HY, hid (B0.out.trans (hb.out.mono B0.out.size))⟩


set_option maxRecDepth 100000 in
set_option maxHeartbeats 6400000 in
theorem rText_true {w : World} {n c X : Nat} {A : Option Addr} {f : Nat → Nat} (hr : Rd w w.heap.size A n c f) (hn : n ≤ 40) (hX : X ≤ 1024) :
    Calls Try.prog 29 #[.agg #[.bool true, .slice A n c, .int .i64 (X : Int)]] w fun e w' => ∃ A' n' c', e = .returned (.slice A' n' c') ∧ Hid (n' = 4 + 4 * n) ∧ Hid (By w' w'.heap.size A' n' c' (dtx true n f X)) ∧ Hid (Below w.heap.size w w') := by
  obtain ⟨W, hW⟩ : ∃ W, W = w.alloc (.cells #[.bool true, .slice A n c, .int .i64 (X : Int)] 26) := ⟨_, rfl⟩
  have B0 := hid (show Below w.heap.size w W from hW ▸ (Below.refl w.heap.size w).alloc (Nat.le_refl _) _)
  have P0 : Hid (Dbox W w.heap.size true (.slice A n c) (X : Int)) := hid (hW ▸ heap_alloc_new w _)
  have R0 := hid ((hr.below B0.out).mono B0.out.size)
  have HW := hid hW
  have hcap := hr.cap
  have b0 := P0.out.c0
  have b1 := P0.out.c1
  have b2 := P0.out.c2
  have hlt := P0.out.lt
  have hwX : IntKind.u64.wrap (X : Int) = (X : Int) := by rw [IntKind.wrap_u64]; omega
  have hwn : IntKind.u64.wrap (n : Int) = (n : Int) := by rw [IntKind.wrap_u64]; omega
  have C1 : Hid (∀ w, Calls Try.prog 23 #[.int .u64 1, .int .i64 1] w fun e w' => ∃ A c, e = .returned (.slice A 1 c) ∧ Hid (Ow w' w.heap.size (.slice A 1 c) (be 1 1)) ∧ Hid (By w' w'.heap.size A 1 c (be 1 1)) ∧ Hid (Below w.heap.size w w')) := hid (fun w => rDigits_any (V := 1) (z := 1) (by omega) (by omega))
  have C2 : Hid (∀ w, Calls Try.prog 23 #[.int .u64 (X : Int), .int .i64 2] w fun e w' => ∃ A c, e = .returned (.slice A 2 c) ∧ Hid (Ow w' w.heap.size (.slice A 2 c) (be X 2)) ∧ Hid (By w' w'.heap.size A 2 c (be X 2)) ∧ Hid (Below w.heap.size w w')) := hid (fun w => rDigits_any (z := 2) (by omega) (by omega))
  clear hW hr
  go_enter Try.func29, Try.ntmps29
  go_upto_region 1 with fail
  rw [← HW.out]
  clear HW
  go_upto_region 4 with fail
  go_cut [4] (fun v wx => ∃ A4 c4, v = .slice A4 3 c4 ∧ Hid (Ow wx W.heap.size (.slice A4 3 c4) (be 1 1 ++ be X 2)) ∧ Hid (Below W.heap.size W wx))
  case first =>
    have HBz := hid ((Below.refl W.heap.size W).drew)
    have CF : Hid (∀ w', Below W.heap.size W w' → w'.cell? ⟨w.heap.size, 2, none⟩ = some (.int .i64 (X : Int))) := hid (fun w' hb => (P0.out.below hb hlt).c2)
    have bd2 := CF.out _ HBz.out
    go_region_law (first
      | (refine step_app_bytes rfl (.tmp 9) (.tmp 13) rfl rfl rfl O9.out HBz.out.size Y3.out (by omega) (by simp [be_length]) ?_; intro v' w' hO' hb'; have HBz := hid (HBz.out.trans hb'.out))
      | (go_simp
         go_at_call_of 23 (Value.int IntKind.u64 1)
         with_reducible refine (C1.out _).mono ?_
         rintro e wa ⟨A9, c9, rfl, O9, Y9, hb9⟩
         replace O9 := hid (O9.out.mono HBz.out.size)
         have HBz := hid (HBz.out.trans (hb9.out.mono HBz.out.size))
         have bd2 := CF.out _ HBz.out
         try (replace Y3 := hid ((Y3.out.below hb9.out).mono hb9.out.size)))
      | (go_simp
         go_at_call_of 23 (Value.int IntKind.u64 (X : Int))
         with_reducible refine (C2.out _).mono ?_
         rintro e wb ⟨A3, c3, rfl, O3, Y3, hb3⟩
         have HBz := hid (HBz.out.trans (hb3.out.mono HBz.out.size))
         have bd2 := CF.out _ HBz.out
         try (replace O9 := hid (O9.out.below hb3.out (Nat.le_refl _)))))
    all_goals
      obtain ⟨A4, c4, hv, hY⟩ := hO'.out.shape
      rw [List.length_append, be_length, be_length] at hv
      subst hv
      go_wp2_with fail
      go_meet
      exact ⟨A4, c4, rfl, hO', HBz⟩
  obtain ⟨A4, c4, rfl, hO4, hb4⟩ := hcut
  have Q4 := hid (P0.out.below hb4.out hlt)
  have e0 := Q4.out.c0
  have e1 := Q4.out.c1
  have e2 := Q4.out.c2
  clear b0 b1 b2
  go_wp2_with fail
  refine (rDigits_any (V := n) (z := 1) (by omega) (by omega)).mono ?_
  rintro e w5 ⟨A5, c5, rfl, -, hY5, hb5⟩
  have K5 := hid (hb4.out.trans (hb5.out.mono hb4.out.size))
  have hO5 := hid (hO4.out.below hb5.out (Nat.le_refl _))
  have Q5 := hid (P0.out.below K5.out hlt)
  have b0 := Q5.out.c0
  have b1 := Q5.out.c1
  have b2 := Q5.out.c2
  clear e0 e1 e2
  go_wp2_with (at_builtin; refine app_bytes rfl (.tmp 15) (.tmp 20) rfl rfl rfl hO5.out K5.out.size hY5.out (by simp [be_length]) ?_; intro v6 w6 hO6 hb6; have K6 := hid (K5.out.trans hb6.out); have Q6 := hid (P0.out.below K6.out hlt); have f0 := Q6.out.c0; have f1 := Q6.out.c1; have f2 := Q6.out.c2)
  go_loopw [4, 5] (fun a i wr => ∃ k : Nat, k ≤ n ∧ i = .int .i64 k ∧ Hid (Ow wr W.heap.size a (be 1 1 ++ be X 2 ++ be n 1 ++ lms f k)) ∧ Hid (Below W.heap.size W wr)) (fun _ i _ => n - (intOf i).toNat)
  case atStart => exact ⟨0, by omega, rfl, hid (by rw [show lms f 0 = [] from rfl, List.append_nil]; exact hO6.out), K6⟩
  case round =>
    obtain ⟨k, hk, rfl, hO, hb⟩ := hrel
    have Qr := hid (P0.out.below hb.out hlt)
    have c1 := Qr.out.c1
    clear b0 b1 b2 f0 f1 f2
    by_cases hcon : k < n
    · have hRr := R0.out.below hb.out
      obtain ⟨b, off, rfl, hbB, hc⟩ := hRr.at_ (by omega)
      have hcell := hc k hcon
      have hxl := R0.out.lt k
      have hnext : Hid (be 1 1 ++ be X 2 ++ be n 1 ++ lms f (k + 1) = be 1 1 ++ be X 2 ++ be n 1 ++ lms f k ++ be (f k) 4) := hid (List.append_assoc _ (lms f k) (be (f k) 4)).symm
      generalize f k = x at *
      have hlen : (be 1 1 ++ be X 2 ++ be n 1 ++ lms f k).length ≤ 1000 := by simp only [List.length_append, be_length, lms_length]; omega
      clear hc hRr
      go_wp2_with fail
      refine (rDigits_any (V := x) (z := 4) (by omega) (by omega)).mono ?_
      rintro e w7 ⟨A7, c7, rfl, -, hY7, hb7⟩
      have K7 := hid (hb.out.trans (hb7.out.mono hb.out.size))
      have hO7 := hid (hO.out.below hb7.out (Nat.le_refl _))
      go_wp2_with (at_builtin; refine app_bytes rfl (.tmp 29) (.tmp 36) rfl rfl rfl hO7.out K7.out.size hY7.out (by omega) ?_; intro v8 w8 hO8 hb8)
      go_roundw
      case rel => exact ⟨k + 1, by omega, by go_num, hid (by rw [hnext.out]; exact hO8.out), hid (K7.out.trans hb8.out)⟩
      case measure => simp [intOf]; omega
    · obtain rfl : k = n := by omega
      obtain ⟨A8, c8, hv, hY⟩ := hO.out.shape
      have hl : (be 1 1 ++ be X 2 ++ be k 1 ++ lms f k).length = 4 + 4 * k := by simp only [List.length_append, be_length, lms_length]
      rw [hl] at hv hY
      subst hv
      have HY := hid hY
      clear hY
      go_wp2
      go_ret
      exact ⟨A8, _, c8, rfl, rfl, HY, hid (B0.out.trans (hb.out.mono B0.out.size))⟩


theorem rText_any {w : World} {n c X : Nat} {A : Option Addr} {f : Nat → Nat} {s : Bool} (hr : Rd w w.heap.size A n c f) (hn : n ≤ 40) (hX : X ≤ 1024) :
    Calls Try.prog 29 #[.agg #[.bool s, .slice A n c, .int .i64 (X : Int)]] w fun e w' => ∃ A' n' c', e = .returned (.slice A' n' c') ∧ Hid (n' = 4 + 4 * n) ∧ Hid (By w' w'.heap.size A' n' c' (dtx s n f X)) ∧ Hid (Below w.heap.size w w') := by
  cases s
  · exact rText_false hr hn hX
  · exact rText_true hr hn hX

set_option maxHeartbeats 3200000 in
theorem rPutDyad_any {w : World} {n c m d : Nat} {A D : Option Addr} {f : Nat → Nat} {s : Bool} {x : Int} {xs : List Nat} (h : By w w.heap.size A n c xs) (hr : Rd w w.heap.size D m d f) (hn : n ≤ 9000) :
    Calls Try.prog 10 #[.slice A n c, .agg #[.bool s, .slice D m d, .int .i64 x]] w (PRes w (pdE n s m f x) (xs ++ dtx s m f x.toNat)) := by
  have B0 := hid ((Below.refl w.heap.size w).alloc (Nat.le_refl _) (.cells #[.bool s, .slice D m d, .int .i64 x] 26))
  have P0 : Hid (Dbox _ w.heap.size s (.slice D m d) x) := heap_alloc_new w (.cells #[.bool s, .slice D m d, .int .i64 x] 26)
  have R0 := hid ((hr.below B0.out).mono B0.out.size)
  have HX := hid h
  have C := hid (emay_any R0.out s x)
  have b0 := P0.out.c0
  have b1 := P0.out.c1
  have b2 := P0.out.c2
  clear h hr
  by_cases hm : DMay s m f x
  · rw [bool_of_dec hm] at C
    obtain ⟨X, rfl⟩ : ∃ X : Nat, x = X := ⟨x.toNat, by have := hm.2.1; omega⟩
    rw [Int.toNat_natCast]
    have HE : Hid (pdE n s m f (X : Int) = if 3900 < n + (4 + 4 * m) then 4 else 0) := hid (by unfold pdE; rw [if_neg (fun h => h hm)])
    have hm40 := hm.1.1
    have hX := hm.2.2.1
    clear hm
    go_enter Try.func10, Try.ntmps10
    go_wp2_with fail
    refine C.out.mono ?_
    rintro e w1 ⟨rfl, hb1⟩
    have K1 := hid (B0.out.trans (hb1.out.mono B0.out.size))
    have P1 := hid (P0.out.below hb1.out P0.out.lt)
    have R1 := hid ((R0.out.below hb1.out).mono hb1.out.size)
    have e0 := P1.out.c0
    have e1 := P1.out.c1
    have e2 := P1.out.c2
    clear b0 b1 b2 P0 R0 B0 hb1 C
    go_wp2_with fail
    refine (rText_any R1.out hm40 (by omega)).mono ?_
    rintro e w2 ⟨A2, n2, c2, rfl, hn2, hY2, hb2⟩
    have K2 := hid (K1.out.trans (hb2.out.mono K1.out.size))
    have hl2 : n2 ≤ 1000 := by rw [hn2.out]; omega
    clear hb2
    go_wp2_with fail
    refine (rput_any ((HX.out.below K2.out).mono K2.out.size) hY2.out (by omega) (by omega)).mono ?_
    rintro e w4 ⟨A4, n4, c4, e4, rfl, he4, hO4, hn4, hb4⟩
    have K4 := hid (K2.out.trans (hb4.out.mono K2.out.size))
    go_wp2
    go_ret2
    exact ⟨A4, n4, c4, e4, rfl, hid (by rw [HE.out, ← hn2.out]; exact he4.out), hid (hO4.out.mono K2.out.size), hn4, K4⟩
  · rw [bool_of_not hm] at C
    have HE : Hid (8 = pdE n s m f x) := hid (by unfold pdE; rw [if_pos hm])
    rw [← HE.out]
    clear hm
    go_enter Try.func10, Try.ntmps10
    go_wp2_with fail
    refine C.out.mono ?_
    rintro e w1 ⟨rfl, hb1⟩
    have K1 := hid (B0.out.trans (hb1.out.mono B0.out.size))
    go_wp2
    go_ret2
    exact PRes.bad (by omega) K1.out

end Go.Proofs.Ytmaggpigodkhhaa
