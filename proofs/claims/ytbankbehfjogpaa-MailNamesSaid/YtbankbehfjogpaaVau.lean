/- Package mail: Read. -/
/- Package mail: Read, walked. -/
/- The laws' own helpers of package mail: push, alive. -/
/- Masses: what is too great; the law's half, alive. -/
/- The document's Great of a mail. -/
import Derived.Test.YtbankbehfjogpaaVat
import Derived.Test.YtbankbehfjogpaaVan
import Derived.Test.YtbankbehfjogpaaVao
import Derived.Test.YtbankbehfjogpaaVad
import Derived.Test.YtbankbehfjogpaaVag
import Derived.Test.YtbankbehfjogpaaVar

namespace Go.Proofs.Ytbankbehfjogpaa
open Go.RowKit Go.Shelf Go.Lib
set_option maxRecDepth 100000

/-- A mail may be. -/
structure MayM (M : Ml) : Prop where
  fit : FitM M
  edge : EMay M.ha M.mn M.mx
  tags : LMay M.le.length (fun j => (M.le[j]?).getD 0)
theorem may_iff {w : World} {B : Nat} {m : Md} {l : List De} {t : Nat → Nat} (h : Prd w B m l t) (hx : ∀ k, k < 4 → 0 ≤ (m.D k).x) : PMay m l t ↔ MayM (mlOf m l t) := by
  have hlen : (mlOf m l t).le.length = m.k := by show ((List.range m.k).map t).length = m.k; simp
  have hget : (fun j => ((mlOf m l t).le[j]?).getD 0) = t := funext fun j => range_map_get m.k t h.tg.out j
  constructor
  · intro hp
    have h2 := hp.2.2.2.2.2
    exact ⟨fit_of h hp, h2.1, by rw [hlen, hget]; exact h2.2.1⟩
  · rintro ⟨hf, he, ht⟩
    rw [hlen, hget] at ht
    have hF := hf.fit
    have hd : ∀ k, k < 4 → DMay (m.D k).s (m.D k).n (m.D k).f (m.D k).x := by
      have key : ∀ k, k < 4 → DMay (ddy (m.D k)).s (ddy (m.D k)).n (ddy (m.D k)).f ((ddy (m.D k)).x : Int) → DMay (m.D k).s (m.D k).n (m.D k).f (m.D k).x := fun k hk hm => by
        have e : (((ddy (m.D k)).x : Nat) : Int) = (m.D k).x := by have := hx k hk; show ((m.D k).x.toNat : Int) = (m.D k).x; omega
        rw [e] at hm
        exact hm
      intro k hk
      have hc : k = 0 ∨ k = 1 ∨ k = 2 ∨ k = 3 := by omega
      rcases hc with rfl | rfl | rfl | rfl
      · exact key 0 hk hf.S
      · exact key 1 hk hf.W
      · exact key 2 hk hf.C
      · exact key 3 hk hf.A
    have hchk : kchk l = 0 := chk_zero.2 ⟨hF.lsn, List.any_eq_false.2 fun d hd => by
      have h5 := hF.ls d hd
      unfold bad
      simp only [Bool.or_eq_true, decide_eq_true_eq, not_or, Int.not_lt, Int.not_le]
      omega⟩
    have f1 := hF.fr
    have f2 := hF.tu
    refine (pmay_iff h).2 ⟨⟨⟨hF.kd, ?_, ?_, hF.ep, hF.nu⟩, hF.ab, hd, hchk, he, ht⟩, ?_, ?_, ?_, ?_, ?_⟩
    · have := hF.fr
      exact ⟨this.1, Int.le_of_lt_add_one this.2⟩
    · have := hF.tu
      exact ⟨this.1, Int.le_of_lt_add_one this.2⟩
    · by_cases h3 : m.kd = 3
      · exact .inl h3
      by_cases h4 : m.kd = 4
      · exact .inr (.inl h4)
      exact .inr (.inr (hF.ab0 h3 h4))
    · by_cases h1 : m.kd = 1
      · exact .inl h1
      exact .inr (hF.sw0 h1)
    · by_cases h3 : m.kd = 2
      · exact .inl h3
      by_cases h4 : m.kd = 3
      · exact .inr (.inl h4)
      exact .inr (.inr (hF.ca0 h3 h4))
    · by_cases h1 : m.kd = 5
      · exact .inl h1
      exact .inr (hF.ls0 h1)
    · by_cases h1 : m.kd = 6
      · exact .inl h1
      have h2 := hF.le0 h1
      have h3 := hF.ed h2.1
      exact .inr ⟨h2.1, h3.1, h3.2, h2.2⟩
/-- What is answered, as a mail. -/
theorem out_ml {Dv : World → Dy → Prop} {w : World} {B : Nat} {m : Md} {M : Ml} (h : Out Dv w B m M) : mlOf m M.ls (fun j => (M.le[j]?).getD 0) = M ∧ ∀ k, k < 4 → 0 ≤ (m.D k).x := by
  have dd : ∀ {D : Dy} {d : Ddy}, DV D d → ddy D = d ∧ 0 ≤ D.x := fun {D d} hd => ⟨dy_ext hd.1 hd.2.1 (fun j => by rw [← hd.2.2.1]; rfl) (by have := hd.2.2.2; show D.x.toNat = d.x; omega), by have := hd.2.2.2; omega⟩
  refine ⟨ml_ext h.kd h.fr h.tu h.ep h.nu h.ab (dd h.S).1 (dd h.W).1 (dd h.C).1 (dd h.A).1 h.wa rfl h.ha h.mn h.mx ?_, fun k hk => ?_⟩
  · show (List.range m.k).map (fun j => (M.le[j]?).getD 0) = M.le
    have hl := h.tg.rd.1
    apply List.ext_getElem?
    intro j
    rcases Nat.lt_or_ge j m.k with hj | hj
    · have hj2 : j < M.le.length := by omega
      rw [List.getElem?_map, List.getElem?_range hj, List.getElem?_eq_getElem hj2]
      show some ((M.le[j]?).getD 0) = _
      rw [List.getElem?_eq_getElem hj2]
      rfl
    · rw [List.getElem?_eq_none (by simpa using hj), List.getElem?_eq_none (by omega)]
  · have hc : k = 0 ∨ k = 1 ∨ k = 2 ∨ k = 3 := by omega
    rcases hc with rfl | rfl | rfl | rfl
    · exact (dd h.S).2
    · exact (dd h.W).2
    · exact (dd h.C).2
    · exact (dd h.A).2
/-- What lies between a frame's head and its sum. -/
def inn (xs : List Nat) : List Nat := (xs.take (xs.length - 4)).drop 5
/-- The bytes are the text of a mail that may be. -/
structure RdOk (xs : List Nat) (M : Ml) : Prop where
  flt : flt xs = 0
  may : MayM M
  kd : M.kd = xs.getD 2 0
  cont : cont M = inn xs
theorem alok_mz {k : Nat} (hk : k < 256) (s : Rst) : AlOk Wrd s (mz k) where
  kd := hk
  fr := ⟨Int.le_refl 0, by show (0 : Int) < 4294967296; omega⟩
  tu := ⟨Int.le_refl 0, by show (0 : Int) < 4294967296; omega⟩
  ep := ⟨Int.le_refl 0, by show (0 : Int) < 4294967296; omega⟩
  nu := ⟨Int.le_refl 0, by show (0 : Int) < 4294967296; omega⟩
  ab := ⟨Int.le_refl 0, by show (0 : Int) < 4294967296; omega⟩
  ls := fun d hd => by cases hd
  lsn := Nat.zero_le _
  mn := ⟨by show (-2147483648 : Int) ≤ 0; omega, by show (0 : Int) < 2147483648; omega⟩
  mx := ⟨by show (-2147483648 : Int) ≤ 0; omega, by show (0 : Int) < 2147483648; omega⟩
  len := Nat.zero_le _
  nfl := fun s n _ => by have := rnR_one s; show (rnR s 1).1 ≤ 1000; omega
theorem arg_mz (w : World) (B k : Nat) : Arg w B (Mz k) (mz k) :=
  ⟨rfl, rfl, rfl, rfl, rfl, rfl, fun _ _ => Rd.nil _ _, ⟨rfl, rfl, rfl, rfl⟩, ⟨rfl, rfl, rfl, rfl⟩, ⟨rfl, rfl, rfl, rfl⟩, ⟨rfl, rfl, rfl, rfl⟩, rfl, Ds.nil' _ _, rfl, rfl, rfl, ⟨fun _ => 0, Rd.nil _ _, fun _ => rfl⟩, rfl⟩
end Go.Proofs.Ytbankbehfjogpaa


namespace Go.Proofs.Ytbankbehfjogpaa
open Go.RowKit Go.Shelf Go.Lib
set_option maxRecDepth 100000

theorem Out.dv' {Dv Dv' : World → Dy → Prop} {w : World} {B : Nat} {m : Md} {M : Ml} (h : Out Dv w B m M) (hd : ∀ D, Dv w D → Dv' w D) : Out Dv' w B m M :=
  ⟨h.kd, h.fr, h.tu, h.ep, h.nu, h.ab, fun k hk => hd _ (h.dv k hk), h.S, h.W, h.C, h.A, h.wa, h.ls, h.ha, h.mn, h.mx, h.tg⟩
theorem Out.far {w w' : World} {N B C : Nat} {m : Md} {M : Ml} (h : Out (fun X D => Mk X 34 B D.A D.n D.c D.f) w C m M) (hw : Wr N w w') (hB : N < B) (hC : N < C) : Out (fun X D => Mk X 34 B D.A D.n D.c D.f) w' C m M :=
  ⟨h.kd, h.fr, h.tu, h.ep, h.nu, h.ab, fun k hk => (by
    have hk' := h.dv k hk
    exact ⟨hk'.cap, hk'.max, hk'.lt, hk'.out, hk'.own.imp id (by rintro ⟨b, cs, hA, hb, hh, hs, hc⟩; exact ⟨b, cs, hA, hb, (hw.block b (by omega)).trans hh, hs, hc⟩)⟩), h.S, h.W, h.C, h.A, h.wa, h.ls.wr hw hC, h.ha, h.mn, h.mx, h.tg.wr hw hC⟩
theorem getD_lt' {xs : List Nat} (h : ∀ x ∈ xs, x < 256) (j : Nat) : xs.getD j 0 < 256 := by
  rw [List.getD_eq_getElem?_getD]
  cases hx : xs[j]? with
  | none => show 0 < 256; omega
  | some x => exact h x (List.mem_of_getElem? hx)

set_option maxHeartbeats 12800000 in
theorem read_frame {w : World} {A : Option Addr} {n c : Nat} {xs : List Nat} (h : By w w.heap.size A n c xs) (hf : flt xs ≠ 0) :
    Calls Try.prog 12 #[.slice A n c] w fun e w' => e = .returned (.tuple #[.agg (mdc (Mz 0)), .int .i64 (flt xs)]) ∧ Hid (Below w.heap.size w w') := by
  obtain ⟨w1, hw1⟩ : ∃ w1, w1 = w.alloc (.cells (mdc (Mz 0)) 31) := ⟨_, rfl⟩
  have B0 := hid (show Below w.heap.size w w1 from hw1 ▸ (Below.refl _ w).alloc (Nat.le_refl _) _)
  have P0 := hid (show Pbox w1 w.heap.size (Mz 0) from hw1 ▸ heap_alloc_new w _)
  have HW := hid hw1
  have H1 := hid ((h.below B0.out).mono B0.out.size)
  have CT := hid (Take_bad H1.out (Nat.le_refl _) hf)
  have hz : (flt xs != 0) = true := by simpa using hf
  obtain ⟨er, her⟩ : ∃ er, er = flt xs := ⟨_, rfl⟩
  rw [← her] at CT hz ⊢
  clear hw1 h hf her
  go_enter Try.func12, Try.ntmps12
  go_upto_region 1 with fail
  change Code.wp _ _ _ _ (w.alloc (.cells (mdc (Mz 0)) 31))
  rw [← HW.out]
  clear HW
  go_wp2_with fail
  refine CT.out.mono ?_
  rintro e w2 ⟨rfl, hb⟩
  have P2 := hid (P0.out.below hb.out P0.out.lt)
  have B2 := hid (B0.out.trans (hb.out.mono B0.out.size))
  clear CT hb
  go_wp2_with (first | (refine wp_pstore rfl (.tmp 2) (.tmp 17) (by with_reducible rfl) w.heap.size (Mz 0) (Mz 0) (by rfl) (by rfl) P2.out ?_) | fail)
  have hw := wr_pstore w2 w.heap.size (Mz 0)
  refine ret_mail2 rfl (by rfl) (by rfl) rfl (P2.out.store (Mz 0)) ⟨rfl, hid ?_⟩
  exact ((hw.ex (G := fun _ => False) (Ex.of_below B2.out) (Nat.le_refl _)).below (Nat.le_refl _) (fun b hb => hb.elim))

set_option maxHeartbeats 12800000 in
theorem read_good {w : World} {A : Option Addr} {n c : Nat} {xs : List Nat} (h : By w w.heap.size A n c xs) {M : Ml} (hm : RdOk xs M) :
    Calls Try.prog 12 #[.slice A n c] w fun e w' => ∃ m', e = .returned (.tuple #[.agg (mdc m'), .int .i64 0]) ∧ Hid (Out (fun X D => Mk X 34 w.heap.size D.A D.n D.c D.f) w' w.heap.size m' M) ∧ Hid (Below w.heap.size w w') := by
  obtain ⟨w1, hw1⟩ : ∃ w1, w1 = w.alloc (.cells (mdc (Mz 0)) 31) := ⟨_, rfl⟩
  have B0 := hid (show Below w.heap.size w w1 from hw1 ▸ (Below.refl _ w).alloc (Nat.le_refl _) _)
  have P0 := hid (show Pbox w1 w.heap.size (Mz 0) from hw1 ▸ heap_alloc_new w _)
  have HW := hid hw1
  have H1 := hid ((h.below B0.out).mono B0.out.size)
  have hf := hm.flt
  have HM := hid hm
  clear hm
  have CT := hid (Take_good H1.out (Nat.le_refl _) hf)
  have HL := hid h.lt
  have HK := hid (show xs.getD 2 0 < 256 from getD_lt h.lt 2)
  clear hw1 h hf
  go_enter Try.func12, Try.ntmps12
  go_upto_region 1 with fail
  change Code.wp _ _ _ _ (w.alloc (.cells (mdc (Mz 0)) 31))
  rw [← HW.out]
  clear HW
  go_wp2_with fail
  refine CT.out.mono ?_
  rintro e w2 ⟨v, rfl, hO, hb⟩
  obtain ⟨k, hk⟩ : ∃ k, k = xs.getD 2 0 := ⟨_, rfl⟩
  obtain ⟨ys, hys⟩ : ∃ ys, ys = inn xs := ⟨_, rfl⟩
  rw [← hk] at HK
  rw [← hk]
  rw [show (xs.take (xs.length - 4)).drop 5 = ys from hys.symm] at hO
  have HKk := hid hk
  have HYs := hid hys
  have hY : ∀ x ∈ ys, x < 256 := hO.out.2.1
  obtain ⟨A2, c2, rfl, hB2⟩ := hO.out.shape
  have P2 := hid (P0.out.below hb.out P0.out.lt)
  have B2 := hid (B0.out.trans (hb.out.mono B0.out.size))
  have HB2 := hid hB2
  have HY := hid hY
  clear hk hys hO hb CT hB2 H1 hY
  go_upto_region 5 with fail
  obtain ⟨w3, hw3⟩ : ∃ w3, w3 = w2.alloc (.cells #[.slice A2 ys.length c2, .int .i64 0, .bool false] 66) := ⟨_, rfl⟩
  rw [← hw3]
  have B3 := hid (show Below w.heap.size w w3 from B2.out.trans (hw3 ▸ (Below.refl _ w2).alloc B2.out.size _))
  have K3 := hid (show Below w2.heap.size w2 w3 from hw3 ▸ (Below.refl _ w2).alloc (Nat.le_refl _) _)
  have W3 := hid (show Rea w2.heap.size ⟨ys, 0, false⟩ w3 from ⟨A2, ys.length, c2, hw3 ▸ heap_alloc_new w2 _, HB2.out.below K3.out, Nat.zero_le _⟩)
  have P3 := hid (show Pbox w3 w.heap.size (Mz 0) from hw3 ▸ P2.out.alloc _)
  have S3 := hid (show w3.heap.size = w2.heap.size + 1 by rw [hw3]; simp)
  have CA := hid (along_any (wlk_rd (g := w2.heap.size) w.heap.size B2.out.size) (s := ⟨ys, 0, false⟩) (w := w3) W3.out (Nat.le_of_eq S3.out.symm) (arg_mz w3 w.heap.size k) (alok_mz HK.out _))
  have hal : alongP Wrd ⟨ys, 0, false⟩ (mz k) = (M, ⟨ys, ys.length, false⟩) := by
    have h1 := along_at HM.out.may.fit
    rw [HM.out.cont, ← HYs.out, HM.out.kd, ← HKk.out] at h1
    exact h1
  rw [hal] at CA
  have HP := hid (show (M, (⟨ys, ys.length, false⟩ : Rst)).1.kd < 256 by show M.kd < 256; rw [HM.out.kd, ← HKk.out]; exact HK.out)
  clear hal
  clear hw3 W3 HB2
  go_wp2_with fail
  refine CA.out.mono ?_
  rintro e w4 ⟨m', rfl, hO, hI, hE⟩
  have hlt2 := P2.out.lt
  have P4 := hid (show Pbox w4 w.heap.size (Mz 0) from hE.out.heap P3.out (show ¬ w.heap.size = w2.heap.size by omega))
  have B4 := hid (B3.out.trans (hE.out.below B3.out.size (fun b hb => by subst hb; exact B2.out.size)))
  have S4 := hid (show w2.heap.size < w4.heap.size by have := hE.out.size; have := S3.out; omega)
  obtain ⟨w5, hw5⟩ : ∃ w5, w5 = w4.alloc (.cells (mdc (Mz 0)) 31) := ⟨_, rfl⟩
  have P5n := hid (show Pbox w5 w4.heap.size (Mz 0) from hw5 ▸ heap_alloc_new w4 _)
  have HW5 := hid hw5
  clear CA hE
  go_upto_region 6 with (first | (refine wp_pstore rfl (.tmp 8) (.tmp 28) (by with_reducible rfl) w4.heap.size (Mz 0) m' (by rfl) (by rfl) (HW5.out ▸ P5n.out) ?_) | fail)
  change Code.wp _ _ _ _ (pstore (w4.alloc (.cells (mdc (Mz 0)) 31)) w4.heap.size m')
  rw [← hw5]
  have hw := wr_pstore w5 w4.heap.size m'
  have s45 : w5.heap.size = w4.heap.size + 1 := by rw [hw5]; simp
  have K45 : Below w4.heap.size w4 w5 := hw5 ▸ (Below.refl _ w4).alloc (Nat.le_refl _) _
  obtain ⟨w6, hw6⟩ : ∃ w6, w6 = pstore w5 w4.heap.size m' := ⟨_, rfl⟩
  rw [← hw6] at hw ⊢
  have K46 := hid (show Below w4.heap.size w4 w6 from ⟨hw.os.trans K45.os, hw.tape.trans K45.tape, hw.output.trans K45.output, Nat.le_trans K45.size (Nat.le_of_eq hw.size), fun b hb => (hw.block b (by omega)).trans (K45.block b hb)⟩)
  have P6n := hid (show Pbox w6 w4.heap.size m' from hw6 ▸ P5n.out.store m')
  have P6 := hid (P4.out.below K46.out P4.out.lt)
  have B6 := hid (B4.out.trans (K46.out.mono B4.out.size))
  have K46e := hid (show Ex (fun b => b = w2.heap.size) w4 w6 from Ex.of_below K46.out)
  have hO6 := hid ((hO.out.ex (wlk_rd (g := w2.heap.size) w.heap.size B2.out.size) K46e.out (show w2.heap.size + 1 ≤ w3.heap.size from Nat.le_of_eq S3.out.symm)))
  obtain ⟨A3, n3, c3, hg3, hB3, hp3⟩ := hI.out
  have hg6 := (K46.out.block _ S4.out).trans hg3
  have hB6 := (hB3.below (K46.out.mono (Nat.le_of_lt S4.out)))
  clear hw5 HW5 hw6 hw hg3 hB3 hI P5n hO s45 K45
  dsimp only at hg6 hB6 hp3
  have r0 := row_c hg6 0
  have r1 := row_c hg6 1
  have r2 := row_c hg6 2
  have hn3 : (ys.length : Int) = (n3 : Int) := by rw [hB6.len]
  have hmx := hB6.max
  have CD := hid (show ∀ X, Calls Try.prog 30 #[.agg #[.slice A3 n3 c3, .int .i64 (ys.length : Int)]] X fun e w' => e = .returned (.bool true) ∧ Hid (Below X.heap.size X w') from fun X => (Done_any A3 n3 c3 (ys.length : Int) X hmx).mono fun _ _ ⟨he, hb⟩ => ⟨by rw [he, decide_eq_true hn3], hb⟩)
  have CC := hid (show ∀ X, Below w6.heap.size w6 X → Calls Try.prog 9 #[.agg (mdc m')] X fun e w' => e = .returned (.int .i64 0) ∧ Hid (Below X.heap.size X w') from fun X hX => by
    have ho := hO6.out.ex (wlk_rd (g := w2.heap.size) w.heap.size B2.out.size) (Ex.of_below hX) (show w2.heap.size + 1 ≤ w3.heap.size from Nat.le_of_eq S3.out.symm)
    have hp := ho.prd HP.out (fun D hD => hD.rd)
    obtain ⟨e1, e2⟩ := out_ml ho
    exact check_yes hp ((may_iff hp e2).2 (by rw [e1]; exact HM.out.may)))
  clear hg6 hB6 hp3 hn3 hmx
  go_wp2_with fail
  refine (CD.out _).mono ?_
  rintro e w7 ⟨rfl, hb7⟩
  have P7n := hid (P6n.out.below hb7.out P6n.out.lt)
  clear r0 r1 r2 CD
  go_wp2_with (first | (refine wp_gmail (by kernel_rfl) (.tmp 8) (by with_reducible rfl) w4.heap.size m' (by rfl) P7n.out ?_) | fail)
  refine (CC.out _ hb7.out).mono ?_
  rintro e w8 ⟨rfl, hb8⟩
  have K8 := hid (hb7.out.trans (hb8.out.mono hb7.out.size))
  have P8n := hid (P6n.out.below K8.out P6n.out.lt)
  have P8 := hid (P6.out.below K8.out P6.out.lt)
  have B8 := hid (B6.out.trans (K8.out.mono B6.out.size))
  have hO8 := hid (hO6.out.ex (wlk_rd (g := w2.heap.size) w.heap.size B2.out.size) (Ex.of_below K8.out) (show w2.heap.size + 1 ≤ w3.heap.size from Nat.le_of_eq S3.out.symm))
  clear CC hb7 hb8 P7n
  go_wp2_with (first | (refine wp_pload rfl (.tmp 8) (by with_reducible rfl) w4.heap.size m' (by rfl) P8n.out ?_) | (refine wp_pstore rfl (.tmp 2) (.tmp 43) (by with_reducible rfl) w.heap.size (Mz 0) m' (by rfl) (by rfl) P8.out ?_) | fail)
  have hw := wr_pstore w8 w.heap.size m'
  have h3 := S3.out
  have h4 := (hO8.out.far hw (by omega) (by omega)).mono (show w.heap.size ≤ w3.heap.size from B3.out.size)
  refine ret_mail2 rfl (by rfl) (by rfl) rfl (P8.out.store m') ⟨m', rfl, hid (h4.dv' fun D hD => hD.mono (by omega)), hid ?_⟩
  exact ((hw.ex (G := fun _ => False) (Ex.of_below B8.out) (Nat.le_refl _)).below (Nat.le_refl _) (fun b hb => hb.elim))
end Go.Proofs.Ytbankbehfjogpaa


namespace Go.Proofs.Ytbankbehfjogpaa
open Go.RowKit Go.Shelf Go.Lib
set_option maxRecDepth 100000

/-- The limbs of a number below 2^32. -/
def sole (x j : Nat) : Nat := if j = 0 then x else 0
theorem sole_vl (x : Nat) : vl (sole x) 1 = x := by simp [vl, pw, sole]
theorem of_small (n : Nat) (h1 : 1 ≤ n) (h2 : n < 4294967296) (w : World) :
    Calls Try.prog 8 #[.int .i64 (n : Int)] w fun e w' => ∃ A c, e = .returned (.agg #[.bool false, .slice A 1 c, .int .i64 0]) ∧ Hid (Mk w' 34 w.heap.size A 1 c (sole n)) ∧ Hid (Below w.heap.size w w') := by
  refine (dof_any (n : Int) (by omega) w).mono ?_
  rintro e w' ⟨s, v, V, rfl, ⟨⟨A, k, c, f, rfl, hm, hf, hV⟩, hs, hn⟩, hb⟩
  obtain rfl : s = false := by cases s; rfl; have := hs.2 rfl; omega
  have hVn : V = n := by have : (V : Int) = n := hn; omega
  subst hVn
  have hsame := same_of_vl (n := k) (m := 1) (g := sole V) hm.lt (fun j => by unfold sole; split <;> omega) hm.out (fun j hj => if_neg (by omega)) hf.2 (fun _ => by show sole V 0 ≠ 0; unfold sole; rw [if_pos rfl]; omega) (by rw [hV, sole_vl])
  obtain ⟨rfl, hfs⟩ := hsame
  obtain rfl : f = sole V := funext hfs
  exact ⟨A, c, rfl, hid hm, hb⟩
/-- The chapter's mails. -/
def pushM : Ml := ⟨1, 1, 2, 3, 4, 0, ⟨false, 1, sole 6, 0⟩, ⟨false, 1, sole 1, 0⟩, d0z, d0z, false, [], false, 0, 0, []⟩
def busyM : Ml := ⟨4, 0, 1, 0, 0, 2, d0z, d0z, d0z, d0z, false, [], false, 0, 0, []⟩
theorem push_cont : cont pushM = [1, 2, 0, 3, 0, 0, 4, 0, 0, 0, 1, 0, 0, 0, 6, 0, 0, 0, 1, 0, 0, 0, 1] := by decide
theorem busy_cont : cont busyM = [0, 1, 0, 0, 0, 0, 0, 0, 0, 2] := by decide
theorem d0_may : DMay d0z.s d0z.n d0z.f (d0z.x : Int) := ⟨⟨by decide, fun h => absurd h (by decide)⟩, by decide, by decide, fun _ => rfl, fun h => absurd h (by decide)⟩
theorem sole_may {x : Nat} (h : x ≠ 0) : DMay false 1 (sole x) ((0 : Nat) : Int) := ⟨⟨by decide, fun _ => by show sole x 0 ≠ 0; unfold sole; rw [if_pos rfl]; exact h⟩, by decide, by decide, fun h => absurd h (by decide), fun h => absurd h (by decide)⟩
theorem d0_fit : d0z.Fit := ⟨by decide, by decide, fun _ => by show 0 < 4294967296; omega, fun _ _ => rfl⟩
theorem sole_fit {x : Nat} (h : x < 4294967296) : (⟨false, 1, sole x, 0⟩ : Ddy).Fit := ⟨by show 1 < 256; omega, by show 0 < 65536; omega, fun j => by show sole x j < _; unfold sole; split <;> omega, fun j hj => if_neg (by have : 1 ≤ j := hj; omega)⟩
theorem lmay_nil : LMay 0 (fun j => (([] : List Nat)[j]?).getD 0) := ⟨by decide, fun j h => absurd h (by omega)⟩
theorem push_may : MayM pushM := by
  refine ⟨⟨⟨by decide, by decide, by decide, by decide, by decide, by decide, fun _ _ => rfl, sole_fit (by decide), sole_fit (by decide), d0_fit, d0_fit, fun h => absurd rfl h, fun _ _ => ⟨rfl, rfl⟩, fun d hd => (by cases hd), by decide, fun _ => ⟨rfl, rfl⟩, fun _ => ⟨rfl, rfl⟩, by decide, fun d hd => (by cases hd), by decide, fun _ => ⟨rfl, rfl⟩⟩,
    sole_may (by decide), sole_may (by decide), d0_may, d0_may⟩, by decide, lmay_nil⟩
theorem busy_may : MayM busyM := by
  refine ⟨⟨⟨by decide, by decide, by decide, by decide, by decide, by decide, fun _ h => absurd rfl h, d0_fit, d0_fit, d0_fit, d0_fit, fun _ => ⟨rfl, rfl⟩, fun _ _ => ⟨rfl, rfl⟩, fun d hd => (by cases hd), by decide, fun _ => ⟨rfl, rfl⟩, fun _ => ⟨rfl, rfl⟩, by decide, fun d hd => (by cases hd), by decide, fun _ => ⟨rfl, rfl⟩⟩,
    d0_may, d0_may, d0_may, d0_may⟩, by decide, lmay_nil⟩
/-- The push, as it lies. -/
def pushD (A : Option Addr) (c : Nat) (B : Option Addr) (d : Nat) : Md := ⟨1, 1, 2, 3, 4, 0, of4 ⟨false, A, 1, c, 0, sole 6⟩ ⟨false, B, 1, d, 0, sole 1⟩ d0 d0, false, none, 0, 0, false, 0, 0, none, 0, 0⟩
theorem push_ml (A : Option Addr) (c : Nat) (B : Option Addr) (d : Nat) : mlOf (pushD A c B d) [] (fun _ => 0) = pushM := rfl

set_option maxHeartbeats 6400000 in
theorem push_any (w : World) : Calls Try.prog 7 #[] w fun e w' => ∃ A c B d, e = .returned (.agg (mdc (pushD A c B d))) ∧ Hid (Mk w' 34 w.heap.size A 1 c (sole 6)) ∧ Hid (Mk w' 34 w.heap.size B 1 d (sole 1)) ∧ Hid (Below w.heap.size w w') := by
  obtain ⟨w1, hw1⟩ : ∃ w1, w1 = w.alloc (.cells (mdc (Mz 0)) 31) := ⟨_, rfl⟩
  have B0 := hid (show Below w.heap.size w w1 from hw1 ▸ (Below.refl _ w).alloc (Nat.le_refl _) _)
  have P0 := hid (show Pbox w1 w.heap.size (Mz 0) from hw1 ▸ heap_alloc_new w _)
  have HW := hid hw1
  have C6 := hid (of_small 6 (by omega) (by omega) w1)
  have C1 := hid (fun X => of_small 1 (by omega) (by omega) X)
  clear hw1
  go_enter Try.func7, Try.ntmps7
  go_upto_region 1 with fail
  change Code.wp _ _ _ _ (w.alloc (.cells (mdc (Mz 0)) 31))
  rw [← HW.out]
  clear HW
  go_wp2_with fail
  refine C6.out.mono ?_
  rintro e w2 ⟨A, c, rfl, hA, hb⟩
  go_wp2_with fail
  refine (C1.out _).mono ?_
  rintro e w3 ⟨B, d, rfl, hB, hb2⟩
  have K := hid (hb.out.trans (hb2.out.mono hb.out.size))
  have P3 := hid (P0.out.below K.out P0.out.lt)
  have B3 := hid (B0.out.trans (K.out.mono B0.out.size))
  have hA3 := hid ((hA.out.below hb2.out (Nat.le_refl _)).mono (B' := w1.heap.size) (Nat.le_refl _))
  have hB3 := hid (hB.out.mono (B' := w1.heap.size) hb.out.size)
  have hlt := P0.out.lt
  clear hA hb hB hb2 C6 C1
  go_wp2_with (first | (refine wp_pstore rfl (.tmp 0) (.tmp 4) (by with_reducible rfl) w.heap.size (Mz 0) (pushD A c B d) (by rfl) (by rfl) P3.out ?_) | fail)
  have hw := wr_pstore w3 w.heap.size (pushD A c B d)
  have key : ∀ {D : Option Addr} {n e : Nat} {f : Nat → Nat}, Mk w3 34 w1.heap.size D n e f → Mk (pstore w3 w.heap.size (pushD A c B d)) 34 w.heap.size D n e f := fun hk =>
    ⟨hk.cap, hk.max, hk.lt, hk.out, hk.own.imp id (by rintro ⟨b, cs, hA, hb, hh, hs, hc⟩; exact ⟨b, cs, hA, by omega, (hw.block b (by omega)).trans hh, hs, hc⟩)⟩
  refine ret_mail1 rfl (by rfl) rfl (P3.out.store (pushD A c B d)) ⟨A, c, B, d, rfl, hid (key hA3.out), hid (key hB3.out), hid ?_⟩
  exact ((hw.ex (G := fun _ => False) (Ex.of_below B3.out) (Nat.le_refl _)).below (Nat.le_refl _) (fun b hb => hb.elim))
theorem push_prd {w : World} {L : Nat} {A B : Option Addr} {c d : Nat} (hA : Mk w 34 L A 1 c (sole 6)) (hB : Mk w 34 L B 1 d (sole 1)) : Prd w w.heap.size (pushD A c B d) [] (fun _ => 0) :=
  ⟨by show 1 < 256; omega, fun k hk => by
    have hc : k = 0 ∨ k = 1 ∨ k = 2 ∨ k = 3 := by omega
    rcases hc with rfl | rfl | rfl | rfl
    · exact hA.rd
    · exact hB.rd
    · exact Rd.nil _ _
    · exact Rd.nil _ _, Ds.nil' _ _, Rd.nil _ _⟩
theorem push_x (A : Option Addr) (c : Nat) (B : Option Addr) (d : Nat) : ∀ k, k < 4 → 0 ≤ ((pushD A c B d).D k).x := fun k hk => by
  have hc : k = 0 ∨ k = 1 ∨ k = 2 ∨ k = 3 := by omega
  rcases hc with rfl | rfl | rfl | rfl <;> exact Int.le_refl 0
def busyD : Md := ⟨4, 0, 1, 0, 0, 2, D0, false, none, 0, 0, false, 0, 0, none, 0, 0⟩
theorem busy_prd (w : World) : Prd w w.heap.size busyD [] (fun _ => 0) := ⟨by show 4 < 256; omega, fun _ _ => Rd.nil _ _, Ds.nil' _ _, Rd.nil _ _⟩

set_option maxHeartbeats 6400000 in
theorem wlive_any (w : World) : Calls Try.prog 14 #[] w fun e w' => e = .returned (.bool true) ∧ Hid (Below w.heap.size w w') := by
  have CP := hid (push_any w)
  go_enter Try.func14, Try.ntmps14
  go_wp2_with fail
  refine CP.out.mono ?_
  rintro e w1 ⟨A, c, B, d, rfl, hA, hB, hb1⟩
  have hp1 := push_prd hA.out hB.out
  have CW := write_good hp1 ((may_iff hp1 (push_x A c B d)).2 (by rw [push_ml]; exact push_may))
  rw [push_ml, push_cont] at CW
  have HCW := hid CW
  clear CW hp1 hA hB CP
  go_wp2_with fail
  refine HCW.out.mono ?_
  rintro e w2 ⟨v2, rfl, hO2, hb2⟩
  have hfl : flt (frm 1 [1, 2, 0, 3, 0, 0, 4, 0, 0, 0, 1, 0, 0, 0, 6, 0, 0, 0, 1, 0, 0, 0, 1]) = 0 := flt_frm (by omega) (by decide) (by decide)
  obtain ⟨A2, c2, rfl, hY2⟩ := hO2.out.shape
  have CT := Take_good hY2 (Nat.le_refl _) hfl
  rw [frm_kind, frm_body] at CT
  have HT := hid CT
  clear hO2 hY2 CT hfl HCW
  go_wp2_with fail
  refine HT.out.mono ?_
  rintro e w3 ⟨v3, rfl, hO3, hb3⟩
  have HO3 := hid hO3.out
  have hp3 := busy_prd w3
  have CW := write_good hp3 ((may_iff hp3 (fun k _ => Int.le_refl 0)).2 (show MayM busyM from busy_may))
  rw [show mlOf busyD [] (fun _ => 0) = busyM from rfl, busy_cont] at CW
  have HCW : Hid (Calls Try.prog 10 #[.agg (mdc busyD)] w3 fun e w' => ∃ v, e = .returned (.tuple #[v, .int .i64 0]) ∧ Hid (Ow w' w3.heap.size v (frm 4 [0, 1, 0, 0, 0, 0, 0, 0, 0, 2])) ∧ Hid (Below w3.heap.size w3 w')) := hid CW
  clear CW hp3 hO3 HT
  go_wp2_with fail
  refine HCW.out.mono ?_
  rintro e w4 ⟨v4, rfl, hO4, hb4⟩
  have hfl : flt (frm 4 [0, 1, 0, 0, 0, 0, 0, 0, 0, 2]) = 0 := flt_frm (by omega) (by decide) (by decide)
  obtain ⟨A4, c4, rfl, hY4⟩ := hO4.out.shape
  have CT := Take_good hY4 (Nat.le_refl _) hfl
  rw [frm_kind, frm_body] at CT
  have HT := hid CT
  clear hO4 hY4 CT hfl HCW
  go_wp2_with fail
  refine HT.out.mono ?_
  rintro e w5 ⟨v5, rfl, hO5, hb5⟩
  have K5 := hb4.out.trans (hb5.out.mono hb4.out.size)
  obtain ⟨A3, c3, rfl, hY3⟩ := (HO3.out.below K5 (Nat.le_refl _)).shape
  obtain ⟨A5, c5, rfl, hY5⟩ := hO5.out.shape
  have hY3' : By w5 w5.heap.size A3 23 c3 [1, 2, 0, 3, 0, 0, 4, 0, 0, 0, 1, 0, 0, 0, 6, 0, 0, 0, 1, 0, 0, 0, 1] := hY3
  have hY5' : By w5 w5.heap.size A5 10 c5 [0, 1, 0, 0, 0, 0, 0, 0, 0, 2] := hY5
  have cv1 := conv_any hY3'
  have cv2 := conv_any hY5'
  rw [show str [1, 2, 0, 3, 0, 0, 4, 0, 0, 0, 1, 0, 0, 0, 6, 0, 0, 0, 1, 0, 0, 0, 1] = { data := #[1, 2, 0, 3, 0, 0, 4, 0, 0, 0, 1, 0, 0, 0, 6, 0, 0, 0, 1, 0, 0, 0, 1] } by decide] at cv1
  rw [show str [0, 1, 0, 0, 0, 0, 0, 0, 0, 2] = { data := #[0, 1, 0, 0, 0, 0, 0, 0, 0, 2] } by decide] at cv2
  have BB := hid (hb1.out.trans ((hb2.out.trans ((hb3.out.trans (K5.mono hb3.out.size)).mono hb2.out.size)).mono hb1.out.size))
  clear hY3 hY5 hY3' hY5' hO5 HO3 HT K5 hb1 hb2 hb3 hb4 hb5
  go_wp2
  go_ret
  exact ⟨by first | rfl | simp, BB⟩
end Go.Proofs.Ytbankbehfjogpaa


namespace Go.Proofs.Ytbankbehfjogpaa
set_option maxRecDepth 100000
open Go.RowKit Go.Shelf

/-- A mass that is more than statements go through. -/
def MGr (D : Nat → Dy) : Prop := ∃ k, k < 4 ∧ (42 < (D k).n ∨ 1100 < (D k).x)

set_option maxHeartbeats 1600000 in
theorem mgreat_any {w : World} {D : Nat → Dy} (hn : ∀ k, k < 4 → (D k).n ≤ 140737488355328) :
    Calls Try.prog 33 #[.agg (mcells D)] w fun e w' => ∃ r : Bool, e = .returned (.bool r) ∧ Hid (r = true ↔ MGr D) ∧ Hid (Below w.heap.size w w') := by
  obtain ⟨W, hW⟩ : ∃ W, W = w.alloc (.cells (mcells D) 26) := ⟨_, rfl⟩
  have HW := hid hW
  have K := hid (show Below w.heap.size w W from hW ▸ (Below.refl _ w).alloc (Nat.le_refl _) _)
  have P := hid (show Mbox W w.heap.size D from hW ▸ heap_alloc_new w _)
  have Hn := hid hn
  clear hW hn
  by_cases h0 : 42 < (D 0).n ∨ 1100 < (D 0).x
  · replace h0 := hid h0
    go_enter Try.func33, Try.ntmps33
    go_upto_region 1 with fail
    rw [← HW.out]
    have a0 := P.out.at_ 0 _ rfl
    have a1 := P.out.at_ 1 _ rfl
    have a2 := P.out.at_ 2 _ rfl
    go_wp2_with fail
    refine (dgreat_any _ _ _ _ _ _ (Hn.out 0 (by omega))).mono ?_
    rintro e w0 ⟨rfl, hb⟩
    rw [bool_of_dec h0.out]
    clear a0 a1 a2
    replace K := hid (K.out.trans (hb.out.mono K.out.size))
    replace P := hid (P.out.below hb.out P.out.lt)
    clear hb
    go_wp2
    go_ret
    exact ⟨true, rfl, ⟨fun _ => ⟨0, by omega, h0.out⟩, fun _ => rfl⟩, K.out⟩
  · replace h0 := hid h0
    by_cases h1 : 42 < (D 1).n ∨ 1100 < (D 1).x
    · replace h1 := hid h1
      go_enter Try.func33, Try.ntmps33
      go_upto_region 1 with fail
      rw [← HW.out]
      have a0 := P.out.at_ 0 _ rfl
      have a1 := P.out.at_ 1 _ rfl
      have a2 := P.out.at_ 2 _ rfl
      go_wp2_with fail
      refine (dgreat_any _ _ _ _ _ _ (Hn.out 0 (by omega))).mono ?_
      rintro e w0 ⟨rfl, hb⟩
      rw [bool_of_not h0.out]
      clear a0 a1 a2
      replace K := hid (K.out.trans (hb.out.mono K.out.size))
      replace P := hid (P.out.below hb.out P.out.lt)
      clear hb
      have a0 := P.out.at_ 3 _ rfl
      have a1 := P.out.at_ 4 _ rfl
      have a2 := P.out.at_ 5 _ rfl
      go_wp2_with fail
      refine (dgreat_any _ _ _ _ _ _ (Hn.out 1 (by omega))).mono ?_
      rintro e w1 ⟨rfl, hb⟩
      rw [bool_of_dec h1.out]
      clear a0 a1 a2
      replace K := hid (K.out.trans (hb.out.mono K.out.size))
      replace P := hid (P.out.below hb.out P.out.lt)
      clear hb
      go_wp2
      go_ret
      exact ⟨true, rfl, ⟨fun _ => ⟨1, by omega, h1.out⟩, fun _ => rfl⟩, K.out⟩
    · replace h1 := hid h1
      by_cases h2 : 42 < (D 2).n ∨ 1100 < (D 2).x
      · replace h2 := hid h2
        go_enter Try.func33, Try.ntmps33
        go_upto_region 1 with fail
        rw [← HW.out]
        have a0 := P.out.at_ 0 _ rfl
        have a1 := P.out.at_ 1 _ rfl
        have a2 := P.out.at_ 2 _ rfl
        go_wp2_with fail
        refine (dgreat_any _ _ _ _ _ _ (Hn.out 0 (by omega))).mono ?_
        rintro e w0 ⟨rfl, hb⟩
        rw [bool_of_not h0.out]
        clear a0 a1 a2
        replace K := hid (K.out.trans (hb.out.mono K.out.size))
        replace P := hid (P.out.below hb.out P.out.lt)
        clear hb
        have a0 := P.out.at_ 3 _ rfl
        have a1 := P.out.at_ 4 _ rfl
        have a2 := P.out.at_ 5 _ rfl
        go_wp2_with fail
        refine (dgreat_any _ _ _ _ _ _ (Hn.out 1 (by omega))).mono ?_
        rintro e w1 ⟨rfl, hb⟩
        rw [bool_of_not h1.out]
        clear a0 a1 a2
        replace K := hid (K.out.trans (hb.out.mono K.out.size))
        replace P := hid (P.out.below hb.out P.out.lt)
        clear hb
        have a0 := P.out.at_ 6 _ rfl
        have a1 := P.out.at_ 7 _ rfl
        have a2 := P.out.at_ 8 _ rfl
        go_wp2_with fail
        refine (dgreat_any _ _ _ _ _ _ (Hn.out 2 (by omega))).mono ?_
        rintro e w2 ⟨rfl, hb⟩
        rw [bool_of_dec h2.out]
        clear a0 a1 a2
        replace K := hid (K.out.trans (hb.out.mono K.out.size))
        replace P := hid (P.out.below hb.out P.out.lt)
        clear hb
        go_wp2
        go_ret
        exact ⟨true, rfl, ⟨fun _ => ⟨2, by omega, h2.out⟩, fun _ => rfl⟩, K.out⟩
      · replace h2 := hid h2
        by_cases h3 : 42 < (D 3).n ∨ 1100 < (D 3).x
        · replace h3 := hid h3
          go_enter Try.func33, Try.ntmps33
          go_upto_region 1 with fail
          rw [← HW.out]
          have a0 := P.out.at_ 0 _ rfl
          have a1 := P.out.at_ 1 _ rfl
          have a2 := P.out.at_ 2 _ rfl
          go_wp2_with fail
          refine (dgreat_any _ _ _ _ _ _ (Hn.out 0 (by omega))).mono ?_
          rintro e w0 ⟨rfl, hb⟩
          rw [bool_of_not h0.out]
          clear a0 a1 a2
          replace K := hid (K.out.trans (hb.out.mono K.out.size))
          replace P := hid (P.out.below hb.out P.out.lt)
          clear hb
          have a0 := P.out.at_ 3 _ rfl
          have a1 := P.out.at_ 4 _ rfl
          have a2 := P.out.at_ 5 _ rfl
          go_wp2_with fail
          refine (dgreat_any _ _ _ _ _ _ (Hn.out 1 (by omega))).mono ?_
          rintro e w1 ⟨rfl, hb⟩
          rw [bool_of_not h1.out]
          clear a0 a1 a2
          replace K := hid (K.out.trans (hb.out.mono K.out.size))
          replace P := hid (P.out.below hb.out P.out.lt)
          clear hb
          have a0 := P.out.at_ 6 _ rfl
          have a1 := P.out.at_ 7 _ rfl
          have a2 := P.out.at_ 8 _ rfl
          go_wp2_with fail
          refine (dgreat_any _ _ _ _ _ _ (Hn.out 2 (by omega))).mono ?_
          rintro e w2 ⟨rfl, hb⟩
          rw [bool_of_not h2.out]
          clear a0 a1 a2
          replace K := hid (K.out.trans (hb.out.mono K.out.size))
          replace P := hid (P.out.below hb.out P.out.lt)
          clear hb
          have a0 := P.out.at_ 9 _ rfl
          have a1 := P.out.at_ 10 _ rfl
          have a2 := P.out.at_ 11 _ rfl
          go_wp2_with fail
          refine (dgreat_any _ _ _ _ _ _ (Hn.out 3 (by omega))).mono ?_
          rintro e w3 ⟨rfl, hb⟩
          rw [bool_of_dec h3.out]
          clear a0 a1 a2
          replace K := hid (K.out.trans (hb.out.mono K.out.size))
          replace P := hid (P.out.below hb.out P.out.lt)
          clear hb
          go_wp2
          go_ret
          exact ⟨true, rfl, ⟨fun _ => ⟨3, by omega, h3.out⟩, fun _ => rfl⟩, K.out⟩
        · replace h3 := hid h3
          go_enter Try.func33, Try.ntmps33
          go_upto_region 1 with fail
          rw [← HW.out]
          have a0 := P.out.at_ 0 _ rfl
          have a1 := P.out.at_ 1 _ rfl
          have a2 := P.out.at_ 2 _ rfl
          go_wp2_with fail
          refine (dgreat_any _ _ _ _ _ _ (Hn.out 0 (by omega))).mono ?_
          rintro e w0 ⟨rfl, hb⟩
          rw [bool_of_not h0.out]
          clear a0 a1 a2
          replace K := hid (K.out.trans (hb.out.mono K.out.size))
          replace P := hid (P.out.below hb.out P.out.lt)
          clear hb
          have a0 := P.out.at_ 3 _ rfl
          have a1 := P.out.at_ 4 _ rfl
          have a2 := P.out.at_ 5 _ rfl
          go_wp2_with fail
          refine (dgreat_any _ _ _ _ _ _ (Hn.out 1 (by omega))).mono ?_
          rintro e w1 ⟨rfl, hb⟩
          rw [bool_of_not h1.out]
          clear a0 a1 a2
          replace K := hid (K.out.trans (hb.out.mono K.out.size))
          replace P := hid (P.out.below hb.out P.out.lt)
          clear hb
          have a0 := P.out.at_ 6 _ rfl
          have a1 := P.out.at_ 7 _ rfl
          have a2 := P.out.at_ 8 _ rfl
          go_wp2_with fail
          refine (dgreat_any _ _ _ _ _ _ (Hn.out 2 (by omega))).mono ?_
          rintro e w2 ⟨rfl, hb⟩
          rw [bool_of_not h2.out]
          clear a0 a1 a2
          replace K := hid (K.out.trans (hb.out.mono K.out.size))
          replace P := hid (P.out.below hb.out P.out.lt)
          clear hb
          have a0 := P.out.at_ 9 _ rfl
          have a1 := P.out.at_ 10 _ rfl
          have a2 := P.out.at_ 11 _ rfl
          go_wp2_with fail
          refine (dgreat_any _ _ _ _ _ _ (Hn.out 3 (by omega))).mono ?_
          rintro e w3 ⟨rfl, hb⟩
          rw [bool_of_not h3.out]
          clear a0 a1 a2
          replace K := hid (K.out.trans (hb.out.mono K.out.size))
          replace P := hid (P.out.below hb.out P.out.lt)
          clear hb
          go_wp2
          go_ret
          exact ⟨false, rfl, ⟨(fun h => by cases h), fun ⟨k, hk, hg⟩ => absurd hg (all_of4 (P := fun k => ¬ (42 < (D k).n ∨ 1100 < (D k).x)) h0.out h1.out h2.out h3.out k hk)⟩, K.out⟩

theorem okay_T {T : Int} (hT : (tp 4000 : Int) = T) (n : Int) (hn : -9223372036854775808 ≤ n ∧ n ≤ 9223372036854775807) : Okay (n * T) := by
  subst hT
  obtain ⟨s, V, hV, hs, hb⟩ : ∃ s V, num s V = n ∧ (V = 0 → s = false) ∧ V < pw 40 := by
    have hp : 18446744073709551616 ≤ pw 40 := Nat.le_trans (show 18446744073709551616 ≤ pw 2 by decide) (pw_mono (j := 2) (k := 40) (by omega))
    by_cases h0 : n < 0
    · exact ⟨true, (-n).toNat, by simp [num]; omega, fun h => by omega, by omega⟩
    · exact ⟨false, n.toNat, by simp [num]; omega, fun _ => rfl, by omega⟩
  refine ⟨s, V, 0, ⟨fun h => ⟨hs h, rfl⟩, fun h => absurd h (by omega)⟩, hb, by omega, ?_⟩
  unfold dv
  rw [num_mul, hV]
end Go.Proofs.Ytbankbehfjogpaa


namespace Go.Proofs.Ytbankbehfjogpaa
open Go.RowKit Go.Shelf Go.Lib
set_option maxRecDepth 100000

/-- A mail that is more than statements go through. -/
def PGr (m : Md) : Prop := MGr m.D ∨ 70 < m.n ∨ 70 < m.k

set_option maxHeartbeats 6400000 in
theorem pgreat_any {w : World} {m : Md} {l : List De} {t : Nat → Nat} {P : Prop} (h : Prd w w.heap.size m l t) (HP : Hid (P ↔ PGr m)) :
    Calls Try.prog 15 #[.agg (mdc m)] w (Says w P) := by
  obtain ⟨W, hW⟩ : ∃ W, W = w.alloc (.cells (mdc m) 31) := ⟨_, rfl⟩
  have K := hid (show Below w.heap.size w W from hW ▸ (Below.refl _ w).alloc (Nat.le_refl _) _)
  have X := hid (show Pbox W w.heap.size m from hW ▸ heap_alloc_new w _)
  have HW := hid hW
  have CM := hid (mgreat_any (w := W) (D := m.D) (fun k hk => (h.ms k hk).max))
  clear hW h
  go_enter Try.func15, Try.ntmps15
  go_upto_region 1 with fail
  rw [← HW.out]
  clear HW
  go_wp2_with (first | (with_reducible refine wp_gmass (by kernel_rfl) (.tmp 3) rfl w.heap.size m rfl X.out ?_) | fail)
  refine CM.out.mono ?_
  rintro e v1 ⟨r, rfl, hr, hb⟩
  clear CM
  replace K := hid (K.out.trans (hb.out.mono K.out.size))
  replace X := hid (X.out.below hb.out X.out.lt)
  clear hb
  cases r with
  | true =>
    have HM := hid (hr.out.1 rfl)
    clear hr
    go_wp2
    go_ret
    exact ⟨true, rfl, hid ⟨fun _ => HP.out.2 (.inl HM.out), fun _ => rfl⟩, K⟩
  | false =>
    have HM : Hid (¬ MGr m.D) := hid (fun hm => absurd (hr.out.2 hm) (by decide))
    clear hr
    have x19 := X.out.c19
    have x23 := X.out.c23
    by_cases h1 : 70 < m.n
    · have hz : decide ((70 : Int) < (m.n : Int)) = true := decide_eq_true (by omega)
      have H1 := hid h1
      clear h1
      go_wp2
      go_ret
      exact ⟨true, rfl, hid ⟨fun _ => HP.out.2 (.inr (.inl H1.out)), fun _ => rfl⟩, K⟩
    · have hz : decide ((70 : Int) < (m.n : Int)) = false := decide_eq_false (by omega)
      have H1 := hid h1
      clear h1
      by_cases h2 : 70 < m.k
      · have hz2 : decide ((70 : Int) < (m.k : Int)) = true := decide_eq_true (by omega)
        have H2 := hid h2
        clear h2
        go_wp2
        go_ret
        exact ⟨true, by first | rfl | (simp only [hz2]; rfl), hid ⟨fun _ => HP.out.2 (.inr (.inr H2.out)), fun _ => rfl⟩, K⟩
      · have hz2 : decide ((70 : Int) < (m.k : Int)) = false := decide_eq_false (by omega)
        have H2 := hid h2
        clear h2
        go_wp2
        go_ret
        exact ⟨false, by first | rfl | (simp only [hz2]; rfl), hid ⟨(fun h => by cases h), fun hp => ((HP.out.1 hp).elim (fun hm => absurd hm HM.out) fun ho => ho.elim (fun q => absurd q H1.out) (fun q => absurd q H2.out))⟩, K⟩

end Go.Proofs.Ytbankbehfjogpaa

