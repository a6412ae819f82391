/- Package mail: Read, walked. -/
/- The document's Of, of any kind; its Read. -/
/- The document's Write of a mail. -/
/- The law's spoil of a mail. -/
/- The document's Same of two mails: numbers that differ, 1. -/
/- The document's Same of two mails: numbers that differ, 2. -/
/- The document's Same of two mails: what is left. -/
/- The document's Same of two mails. -/
/- Masses: what is too great; the law's half, alive. -/
/- The document's Great of a mail. -/
import Derived.Test.YtbankbehfjogpaaGreatVaq
import Derived.Test.YtbankbehfjogpaaGreatPof1
import Derived.Test.YtbankbehfjogpaaGreatPof2
import Derived.Test.YtbankbehfjogpaaGreatPof3
import Derived.Test.YtbankbehfjogpaaGreatPof4
import Derived.Test.YtbankbehfjogpaaGreatPof5
import Derived.Test.YtbankbehfjogpaaGreatPof6
import Derived.Test.YtbankbehfjogpaaGreatPofx
import Derived.Test.YtbankbehfjogpaaGreatVar
import Derived.Test.YtbankbehfjogpaaGreatVae
import Derived.Test.YtbankbehfjogpaaGreatVad
namespace Go.Proofs.YtbankbehfjogpaaGreat
open Go.RowKit Go.Shelf Go.Lib
set_option maxRecDepth 100000
theorem Out.dv' {Dv Dv' : World → Dy → Prop} {w : World} {B : Nat} {m : Md} {M : Ml} (h : Out Dv w B m M) (hd : ∀ D, Dv w D → Dv' w D) : Out Dv' w B m M :=
  ⟨h.kd, h.fr, h.tu, h.ep, h.nu, h.ab, fun k hk => hd _ (h.dv k hk), h.S, h.W, h.C, h.A, h.wa, h.ls, h.ha, h.mn, h.mx, h.tg⟩
theorem Out.far {w w' : World} {N B C : Nat} {m : Md} {M : Ml} (h : Out (fun X D => Mk X 75 B D.A D.n D.c D.f) w C m M) (hw : Wr N w w') (hB : N < B) (hC : N < C) : Out (fun X D => Mk X 75 B D.A D.n D.c D.f) w' C m M :=
  ⟨h.kd, h.fr, h.tu, h.ep, h.nu, h.ab, fun k hk => (by
    have hk' := h.dv k hk
    exact ⟨hk'.cap, hk'.max, hk'.lt, hk'.out, hk'.own.imp id (by rintro ⟨b, cs, hA, hb, hh, hs, hc⟩; exact ⟨b, cs, hA, hb, (hw.block b (by omega)).trans hh, hs, hc⟩)⟩), h.S, h.W, h.C, h.A, h.wa, h.ls.wr hw hC, h.ha, h.mn, h.mx, h.tg.wr hw hC⟩
theorem getD_lt' {xs : List Nat} (h : ∀ x ∈ xs, x < 256) (j : Nat) : xs.getD j 0 < 256 := by
  rw [List.getD_eq_getElem?_getD]
  cases hx : xs[j]? with
  | none => show 0 < 256; omega
  | some x => exact h x (List.mem_of_getElem? hx)
set_option maxHeartbeats 12800000 in
theorem read_frame {w : World} {A : Option Addr} {n c : Nat} {xs : List Nat} (h : By w w.heap.size A n c xs) (hf : flt xs ≠ 0) :
    Calls Tryz.prog 8 #[.slice A n c] w fun e w' => e = .returned (.tuple #[.agg (mdc (Mz 0)), .int .i64 (flt xs)]) ∧ Hid (Below w.heap.size w w') := by
  obtain ⟨w1, hw1⟩ : ∃ w1, w1 = w.alloc (.cells (mdc (Mz 0)) 31) := ⟨_, rfl⟩
  have B0 := hid (show Below w.heap.size w w1 from hw1 ▸ (Below.refl _ w).alloc (Nat.le_refl _) _)
  have P0 := hid (show Pbox w1 w.heap.size (Mz 0) from hw1 ▸ heap_alloc_new w _)
  have HW := hid hw1
  have H1 := hid ((h.below B0.out).mono B0.out.size)
  have CT := hid (Take_bad H1.out (Nat.le_refl _) hf)
  have hz : (flt xs != 0) = true := by simpa using hf
  obtain ⟨er, her⟩ : ∃ er, er = flt xs := ⟨_, rfl⟩
  rw [← her] at CT hz ⊢
  clear hw1 h hf her
  go_enter Tryz.func8, Tryz.ntmps8
  go_upto_region 1 with fail
  change Code.wp _ _ _ _ (w.alloc (.cells (mdc (Mz 0)) 31))
  rw [← HW.out]
  clear HW
  go_wp2_with fail
  refine CT.out.mono ?_
  rintro e w2 ⟨rfl, hb⟩
  have P2 := hid (P0.out.below hb.out P0.out.lt)
  have B2 := hid (B0.out.trans (hb.out.mono B0.out.size))
  clear CT hb
  go_wp2_with (first | (refine wp_pstore rfl (.tmp 2) (.tmp 17) (by with_reducible rfl) w.heap.size (Mz 0) (Mz 0) (by rfl) (by rfl) P2.out ?_) | fail)
  have hw := wr_pstore w2 w.heap.size (Mz 0)
  refine ret_mail2 rfl (by rfl) (by rfl) rfl (P2.out.store (Mz 0)) ⟨rfl, hid ?_⟩
  exact ((hw.ex (G := fun _ => False) (Ex.of_below B2.out) (Nat.le_refl _)).below (Nat.le_refl _) (fun b hb => hb.elim))
set_option maxHeartbeats 12800000 in
theorem read_good {w : World} {A : Option Addr} {n c : Nat} {xs : List Nat} (h : By w w.heap.size A n c xs) {M : Ml} (hm : RdOk xs M) :
    Calls Tryz.prog 8 #[.slice A n c] w fun e w' => ∃ m', e = .returned (.tuple #[.agg (mdc m'), .int .i64 0]) ∧ Hid (Out (fun X D => Mk X 75 w.heap.size D.A D.n D.c D.f) w' w.heap.size m' M) ∧ Hid (Below w.heap.size w w') := by
  obtain ⟨w1, hw1⟩ : ∃ w1, w1 = w.alloc (.cells (mdc (Mz 0)) 31) := ⟨_, rfl⟩
  have B0 := hid (show Below w.heap.size w w1 from hw1 ▸ (Below.refl _ w).alloc (Nat.le_refl _) _)
  have P0 := hid (show Pbox w1 w.heap.size (Mz 0) from hw1 ▸ heap_alloc_new w _)
  have HW := hid hw1
  have H1 := hid ((h.below B0.out).mono B0.out.size)
  have hf := hm.flt
  have HM := hid hm
  clear hm
  have CT := hid (Take_good H1.out (Nat.le_refl _) hf)
  have HL := hid h.lt
  have HK := hid (show xs.getD 2 0 < 256 from getD_lt h.lt 2)
  clear hw1 h hf
  go_enter Tryz.func8, Tryz.ntmps8
  go_upto_region 1 with fail
  change Code.wp _ _ _ _ (w.alloc (.cells (mdc (Mz 0)) 31))
  rw [← HW.out]
  clear HW
  go_wp2_with fail
  refine CT.out.mono ?_
  rintro e w2 ⟨v, rfl, hO, hb⟩
  obtain ⟨k, hk⟩ : ∃ k, k = xs.getD 2 0 := ⟨_, rfl⟩
  obtain ⟨ys, hys⟩ : ∃ ys, ys = inn xs := ⟨_, rfl⟩
  rw [← hk] at HK
  rw [← hk]
  rw [show (xs.take (xs.length - 4)).drop 5 = ys from hys.symm] at hO
  have HKk := hid hk
  have HYs := hid hys
  have hY : ∀ x ∈ ys, x < 256 := hO.out.2.1
  obtain ⟨A2, c2, rfl, hB2⟩ := hO.out.shape
  have P2 := hid (P0.out.below hb.out P0.out.lt)
  have B2 := hid (B0.out.trans (hb.out.mono B0.out.size))
  have HB2 := hid hB2
  have HY := hid hY
  clear hk hys hO hb CT hB2 H1 hY
  go_upto_region 5 with fail
  obtain ⟨w3, hw3⟩ : ∃ w3, w3 = w2.alloc (.cells #[.slice A2 ys.length c2, .int .i64 0, .bool false] 65) := ⟨_, rfl⟩
  rw [← hw3]
  have B3 := hid (show Below w.heap.size w w3 from B2.out.trans (hw3 ▸ (Below.refl _ w2).alloc B2.out.size _))
  have K3 := hid (show Below w2.heap.size w2 w3 from hw3 ▸ (Below.refl _ w2).alloc (Nat.le_refl _) _)
  have W3 := hid (show Rea w2.heap.size ⟨ys, 0, false⟩ w3 from ⟨A2, ys.length, c2, hw3 ▸ heap_alloc_new w2 _, HB2.out.below K3.out, Nat.zero_le _⟩)
  have P3 := hid (show Pbox w3 w.heap.size (Mz 0) from hw3 ▸ P2.out.alloc _)
  have S3 := hid (show w3.heap.size = w2.heap.size + 1 by rw [hw3]; simp)
  have CA := hid (along_any (wlk_rd (g := w2.heap.size) w.heap.size B2.out.size) (s := ⟨ys, 0, false⟩) (w := w3) W3.out (Nat.le_of_eq S3.out.symm) (arg_mz w3 w.heap.size k) (alok_mz HK.out _))
  have hal : alongP Wrd ⟨ys, 0, false⟩ (mz k) = (M, ⟨ys, ys.length, false⟩) := by
    have h1 := along_at HM.out.may.fit
    rw [HM.out.cont, ← HYs.out, HM.out.kd, ← HKk.out] at h1
    exact h1
  rw [hal] at CA
  have HP := hid (show (M, (⟨ys, ys.length, false⟩ : Rst)).1.kd < 256 by show M.kd < 256; rw [HM.out.kd, ← HKk.out]; exact HK.out)
  clear hal
  clear hw3 W3 HB2
  go_wp2_with fail
  refine CA.out.mono ?_
  rintro e w4 ⟨m', rfl, hO, hI, hE⟩
  have hlt2 := P2.out.lt
  have P4 := hid (show Pbox w4 w.heap.size (Mz 0) from hE.out.heap P3.out (show ¬ w.heap.size = w2.heap.size by omega))
  have B4 := hid (B3.out.trans (hE.out.below B3.out.size (fun b hb => by subst hb; exact B2.out.size)))
  have S4 := hid (show w2.heap.size < w4.heap.size by have := hE.out.size; have := S3.out; omega)
  obtain ⟨w5, hw5⟩ : ∃ w5, w5 = w4.alloc (.cells (mdc (Mz 0)) 31) := ⟨_, rfl⟩
  have P5n := hid (show Pbox w5 w4.heap.size (Mz 0) from hw5 ▸ heap_alloc_new w4 _)
  have HW5 := hid hw5
  clear CA hE
  go_upto_region 6 with (first | (refine wp_pstore rfl (.tmp 8) (.tmp 28) (by with_reducible rfl) w4.heap.size (Mz 0) m' (by rfl) (by rfl) (HW5.out ▸ P5n.out) ?_) | fail)
  change Code.wp _ _ _ _ (pstore (w4.alloc (.cells (mdc (Mz 0)) 31)) w4.heap.size m')
  rw [← hw5]
  have hw := wr_pstore w5 w4.heap.size m'
  have s45 : w5.heap.size = w4.heap.size + 1 := by rw [hw5]; simp
  have K45 : Below w4.heap.size w4 w5 := hw5 ▸ (Below.refl _ w4).alloc (Nat.le_refl _) _
  obtain ⟨w6, hw6⟩ : ∃ w6, w6 = pstore w5 w4.heap.size m' := ⟨_, rfl⟩
  rw [← hw6] at hw ⊢
  have K46 := hid (show Below w4.heap.size w4 w6 from ⟨hw.os.trans K45.os, hw.tape.trans K45.tape, hw.output.trans K45.output, Nat.le_trans K45.size (Nat.le_of_eq hw.size), fun b hb => (hw.block b (by omega)).trans (K45.block b hb)⟩)
  have P6n := hid (show Pbox w6 w4.heap.size m' from hw6 ▸ P5n.out.store m')
  have P6 := hid (P4.out.below K46.out P4.out.lt)
  have B6 := hid (B4.out.trans (K46.out.mono B4.out.size))
  have K46e := hid (show Ex (fun b => b = w2.heap.size) w4 w6 from Ex.of_below K46.out)
  have hO6 := hid ((hO.out.ex (wlk_rd (g := w2.heap.size) w.heap.size B2.out.size) K46e.out (show w2.heap.size + 1 ≤ w3.heap.size from Nat.le_of_eq S3.out.symm)))
  obtain ⟨A3, n3, c3, hg3, hB3, hp3⟩ := hI.out
  have hg6 := (K46.out.block _ S4.out).trans hg3
  have hB6 := (hB3.below (K46.out.mono (Nat.le_of_lt S4.out)))
  clear hw5 HW5 hw6 hw hg3 hB3 hI P5n hO s45 K45
  dsimp only at hg6 hB6 hp3
  have r0 := row_c hg6 0
  have r1 := row_c hg6 1
  have r2 := row_c hg6 2
  have hn3 : (ys.length : Int) = (n3 : Int) := by rw [hB6.len]
  have hmx := hB6.max
  have CD := hid (show ∀ X, Calls Tryz.prog 29 #[.agg #[.slice A3 n3 c3, .int .i64 (ys.length : Int)]] X fun e w' => e = .returned (.bool true) ∧ Hid (Below X.heap.size X w') from fun X => (Done_any A3 n3 c3 (ys.length : Int) X hmx).mono fun _ _ ⟨he, hb⟩ => ⟨by rw [he, decide_eq_true hn3], hb⟩)
  have CC := hid (show ∀ X, Below w6.heap.size w6 X → Calls Tryz.prog 11 #[.agg (mdc m')] X fun e w' => e = .returned (.int .i64 0) ∧ Hid (Below X.heap.size X w') from fun X hX => by
    have ho := hO6.out.ex (wlk_rd (g := w2.heap.size) w.heap.size B2.out.size) (Ex.of_below hX) (show w2.heap.size + 1 ≤ w3.heap.size from Nat.le_of_eq S3.out.symm)
    have hp := ho.prd HP.out (fun D hD => hD.rd)
    obtain ⟨e1, e2⟩ := out_ml ho
    exact check_yes hp ((may_iff hp e2).2 (by rw [e1]; exact HM.out.may)))
  clear hg6 hB6 hp3 hn3 hmx
  go_wp2_with fail
  refine (CD.out _).mono ?_
  rintro e w7 ⟨rfl, hb7⟩
  have P7n := hid (P6n.out.below hb7.out P6n.out.lt)
  clear r0 r1 r2 CD
  go_wp2_with (first | (refine wp_gmail (by kernel_rfl) (.tmp 8) (by with_reducible rfl) w4.heap.size m' (by rfl) P7n.out ?_) | fail)
  refine (CC.out _ hb7.out).mono ?_
  rintro e w8 ⟨rfl, hb8⟩
  have K8 := hid (hb7.out.trans (hb8.out.mono hb7.out.size))
  have P8n := hid (P6n.out.below K8.out P6n.out.lt)
  have P8 := hid (P6.out.below K8.out P6.out.lt)
  have B8 := hid (B6.out.trans (K8.out.mono B6.out.size))
  have hO8 := hid (hO6.out.ex (wlk_rd (g := w2.heap.size) w.heap.size B2.out.size) (Ex.of_below K8.out) (show w2.heap.size + 1 ≤ w3.heap.size from Nat.le_of_eq S3.out.symm))
  clear CC hb7 hb8 P7n
  go_wp2_with (first | (refine wp_pload rfl (.tmp 8) (by with_reducible rfl) w4.heap.size m' (by rfl) P8n.out ?_) | (refine wp_pstore rfl (.tmp 2) (.tmp 43) (by with_reducible rfl) w.heap.size (Mz 0) m' (by rfl) (by rfl) P8.out ?_) | fail)
  have hw := wr_pstore w8 w.heap.size m'
  have h3 := S3.out
  have h4 := (hO8.out.far hw (by omega) (by omega)).mono (show w.heap.size ≤ w3.heap.size from B3.out.size)
  refine ret_mail2 rfl (by rfl) (by rfl) rfl (P8.out.store m') ⟨m', rfl, hid (h4.dv' fun D hD => hD.mono (by omega)), hid ?_⟩
  exact ((hw.ex (G := fun _ => False) (Ex.of_below B8.out) (Nat.le_refl _)).below (Nat.le_refl _) (fun b hb => hb.elim))
open Go.RowKit Go.Shelf Go.Lib
set_option maxRecDepth 100000
theorem may_x {m : Md} {l : List De} {t : Nat → Nat} (h : PMay m l t) : ∀ k, k < 4 → 0 ≤ (m.D k).x := fun k hk => (h.2.2.2.1 k hk).2.1
theorem pof_any {w : World} {A : Option Addr} {n c K : Nat} {xs : List Nat} (h : By w w.heap.size A n c xs) (hx : xs.length ≤ 5000) (hK : K < 256) :
    Calls Tryz.prog 31 #[.int .u8 (K : Int), .slice A n c] w (OfRes w K xs) := by
  by_cases h1 : K = 1
  · subst h1; exact pof_k1 h hx
  by_cases h2 : K = 2
  · subst h2; exact pof_k2 h hx
  by_cases h3 : K = 3
  · subst h3; exact pof_k3 h hx
  by_cases h4 : K = 4
  · subst h4; exact pof_k4 h hx
  by_cases h5 : K = 5
  · subst h5; exact pof_k5 h hx
  by_cases h6 : K = 6
  · subst h6; exact pof_k6 h hx
  exact pof_kx h hx hK (by omega)
def rdE (xs : List Nat) : Int := if flt xs = 0 then 41 else flt xs
def RdRes (w : World) (xs : List Nat) (e : Ending) (w' : World) : Prop :=
  ∃ m er, e = .returned (.tuple #[.agg (mdc m), .int .i64 er]) ∧ Hid (er = 0 → ∃ l t, (∀ Y, Hi w.heap.size w' Y → Prd Y Y.heap.size m l t) ∧ (∀ k, k < 4 → 0 ≤ (m.D k).x) ∧ RdOk xs (mlOf m l t)) ∧
    Hid (er ≠ 0 → m = Mz 0 ∧ er = rdE xs ∧ ∀ M, ¬ RdOk xs M) ∧ Hid (Below w.heap.size w w')
set_option maxHeartbeats 12800000 in
theorem pread_any {w : World} {A : Option Addr} {n c : Nat} {xs : List Nat} (h : By w w.heap.size A n c xs) (hn : xs.length ≤ 5000) :
    Calls Tryz.prog 9 #[.slice A n c] w (RdRes w xs) := by
  obtain ⟨W, hW⟩ : ∃ W, W = w.alloc (.cells (mdc (Mz 0)) 31) := ⟨_, rfl⟩
  have B0 := hid (show Below w.heap.size w W from hW ▸ (Below.refl _ w).alloc (Nat.le_refl _) _)
  have P0 := hid (show Pbox W w.heap.size (Mz 0) from hW ▸ heap_alloc_new w _)
  have HW := hid hW
  have CT := hid (RTake_any ((h.below B0.out).mono B0.out.size) (Nat.le_refl _))
  have HX := hid h.lt
  have HN := hid hn
  clear hW h hn
  go_enter Tryz.func9, Tryz.ntmps9
  go_upto_region 1 with fail
  change Code.wp _ _ _ _ (w.alloc (.cells (mdc (Mz 0)) 31))
  rw [← HW.out]
  clear HW
  go_wp2_with fail
  refine CT.out.mono ?_
  rintro e w1 ⟨v, rfl, hO, hb⟩
  have K1 := hid hb.out
  have PW := hid P0.out
  replace B0 := hid (B0.out.trans (hb.out.mono B0.out.size))
  replace P0 := hid (P0.out.below hb.out P0.out.lt)
  clear hb CT
  by_cases hf : flt xs = 0
  case neg =>
    obtain ⟨er, her⟩ : ∃ er, er = flt xs := ⟨_, rfl⟩
    have HE := hid her
    have hz : (er != 0) = true := by rw [her]; simpa using hf
    have HF := hid (show ∀ M, ¬ RdOk xs M from fun M hM => hf hM.flt)
    have HF2 := hid hf
    rw [← her]
    clear her hf
    obtain ⟨A1, c1, rfl, -⟩ := hO.out.shape
    clear hO
    go_wp2_with (first | (refine wp_pstore rfl (.tmp 2) (.tmp 17) (by with_reducible rfl) w.heap.size (Mz 0) (Mz 0) (by rfl) (by rfl) P0.out ?_) | fail)
    have hw := wr_pstore w1 w.heap.size (Mz 0)
    refine ret_mail2 rfl (by rfl) (by rfl) rfl (P0.out.store (Mz 0)) ⟨Mz 0, er, rfl, hid (fun h => absurd h (by simpa using hz)), hid (fun _ => ⟨rfl, by rw [HE.out]; exact (if_neg HF2.out).symm, HF.out⟩), hid ?_⟩
    exact ((hw.ex (G := fun _ => False) (Ex.of_below B0.out) (Nat.le_refl _)).below (Nat.le_refl _) (fun b hb => hb.elim))
  have hk : tk xs = xs.getD 2 0 := if_pos hf
  have hb' : tb xs = inn xs := if_pos hf
  rw [hk, hf]
  rw [hb'] at hO
  obtain ⟨K, hK⟩ : ∃ K, K = xs.getD 2 0 := ⟨_, rfl⟩
  have HK := hid (show K < 256 by rw [hK]; exact getD_lt' HX.out 2)
  rw [← hK]
  obtain ⟨ys, hys⟩ : ∃ ys, ys = inn xs := ⟨_, rfl⟩
  rw [← hys] at hO
  have HYl := hid (show ys.length ≤ 5000 by rw [hys]; unfold inn; rw [List.length_drop, List.length_take]; have := HN.out; omega)
  have HYs := hid hys
  have HKk := hid hK
  have HF := hid hf
  obtain ⟨A1, c1, rfl, hY⟩ := hO.out.shape
  have CO := hid (pof_any hY HYl.out HK.out)
  clear hys hK hf hO hk hb' hY
  go_wp2_with fail
  refine CO.out.mono ?_
  rintro e w2 ⟨m, b, rfl, hgood, hbad, hb⟩
  replace B0 := hid (B0.out.trans (hb.out.mono B0.out.size))
  replace P0 := hid (P0.out.below hb.out P0.out.lt)
  clear hb CO
  have S1 := hid (show W.heap.size ≤ w1.heap.size from K1.out.size)
  have SW := hid (show w.heap.size < W.heap.size from PW.out.lt)
  have hP2 := hid (show Pbox (w2.alloc (.cells (mdc (Mz 0)) 31)) w2.heap.size (Mz 0) from heap_alloc_new w2 _)
  go_upto_region 5 with (first | (refine wp_row_k rfl 31 (.tmp 7) (.tmp 23) (by with_reducible rfl) w2.heap.size 31 (mdc (Mz 0)) (mdc m) (by rfl) (by rfl) hP2.out rfl (by kernel_rfl) (mdc_one _) ?_; intro X1 Q7 h7; replace h7 := (show Wq w2.heap.size (w2.alloc (.cells (mdc (Mz 0)) 31)) X1 from h7)) | fail)
  have P7 := hid (show Pbox X1 w2.heap.size m from Q7)
  have K7 := hid (show Below w2.heap.size w2 X1 from h7.bel ((Below.refl _ w2).alloc (Nat.le_refl _) _) (Nat.le_refl _))
  have S2 := hid (show w.heap.size < w2.heap.size from P0.out.lt)
  replace B0 := hid (B0.out.trans (K7.out.mono B0.out.size))
  replace P0 := hid (P0.out.below K7.out P0.out.lt)
  clear Q7 h7 hP2
  cases b with
  | true =>
    obtain ⟨l, t, hP, hmay, hkd, hct⟩ := hgood.out rfl
    replace hP := hid hP
    have hres := hid (show (∀ k, k < 4 → 0 ≤ (m.D k).x) ∧ RdOk xs (mlOf m l t) from ⟨may_x hmay, ⟨HF.out, (may_iff (hP.out _ (Hi.refl _ _)) (may_x hmay)).1 hmay, hkd.trans HKk.out, hct.trans HYs.out⟩⟩)
    clear hgood hbad hmay hkd hct
    go_wp2_with (first | (refine wp_gmail (by kernel_rfl) (.tmp 7) (by with_reducible rfl) w2.heap.size m (by rfl) P7.out ?_) | (refine wp_row_k rfl 31 (.tmp 2) (.tmp 28) (by with_reducible rfl) w.heap.size 31 (mdc (Mz 0)) (mdc m) (by rfl) (by rfl) P0.out rfl (by kernel_rfl) (mdc_one _) ?_; intro Ze Q4 h4) | fail)
    refine ret_mail2 rfl (by rfl) (by rfl) rfl (show Pbox Ze w.heap.size m from Q4) ⟨m, 0, rfl, hid (fun _ => ⟨l, t, fun Y hy => hP.out Y (((Hi.bel K7.out).wq h4 (by have := SW.out; have := S1.out; omega)).trans (hy.mono (by have := SW.out; have := S1.out; omega))), hres.out.1, hres.out.2⟩), hid (fun h => absurd rfl h), hid (h4.bel B0.out (Nat.le_refl _))⟩
  | false =>
    have hb2 := hid (hbad.out rfl)
    clear hgood hbad
    go_wp2_with (first | (refine wp_row_k rfl 31 (.tmp 2) (.tmp 27) (by with_reducible rfl) w.heap.size 31 (mdc (Mz 0)) (mdc (Mz 0)) (by rfl) (by rfl) P0.out rfl (by kernel_rfl) (mdc_one _) ?_; intro Ze Q4 h4) | fail)
    refine ret_mail2 rfl (by rfl) (by rfl) rfl (show Pbox Ze w.heap.size (Mz 0) from Q4) ⟨Mz 0, 41, rfl, hid (fun h => absurd h (by decide)), hid (fun _ => ⟨rfl, (if_pos HF.out).symm, fun M hM => hb2.out.2 M hM.may (hM.kd.trans HKk.out.symm) (hM.cont.trans HYs.out.symm)⟩), hid (h4.bel B0.out (Nat.le_refl _))⟩
open Go.RowKit Go.Shelf Go.Lib
set_option maxRecDepth 100000
set_option maxHeartbeats 3200000 in
theorem pwrite_good {w : World} {m : Md} {l : List De} {t : Nat → Nat} (h : Prd w w.heap.size m l t) (hm : PMay m l t) :
    Calls Tryz.prog 7 #[.agg (mdc m)] w fun e w' => ∃ v, e = .returned (.tuple #[v, .int .i64 0]) ∧ Hid (Ow w' w.heap.size v (frm m.kd (cont (mlOf m l t)))) ∧ Hid (Below w.heap.size w w') := by
  obtain ⟨W, hW⟩ : ∃ W, W = w.alloc (.cells (mdc m) 31) := ⟨_, rfl⟩
  have K := hid (show Below w.heap.size w W from hW ▸ (Below.refl _ w).alloc (Nat.le_refl _) _)
  have X := hid (show Pbox W w.heap.size m from hW ▸ heap_alloc_new w _)
  have HW := hid hW
  have CM := hid (pmay_any (P := True) (h.on K.out) (hid ⟨fun _ => hm, fun _ => trivial⟩))
  have CT := hid (fun Z (hb : Below w.heap.size w Z) => ptext_any (h.on hb) hm)
  clear hW h
  go_enter Tryz.func7, Tryz.ntmps7
  go_upto_region 1 with fail
  rw [← HW.out]
  clear HW
  go_wp2_with (first | (with_reducible refine wp_gmail (by kernel_rfl) (.tmp 1) rfl w.heap.size m rfl X.out ?_) | fail)
  refine CM.out.mono ?_
  rintro e v1 ⟨r, rfl, hr, hb⟩
  obtain rfl : r = true := hr.out.2 trivial
  replace K := hid (K.out.trans (hb.out.mono K.out.size))
  replace X := hid (X.out.below hb.out X.out.lt)
  have CT := hid (CT.out _ K.out)
  clear CM hb hr
  go_wp2_with (first | (with_reducible refine wp_gmail (by kernel_rfl) (.tmp 1) rfl w.heap.size m rfl X.out ?_) | fail)
  refine CT.out.mono ?_
  rintro e v2 ⟨v, rfl, hO, hb⟩
  have HO := hid (hO.out.mono K.out.size)
  replace K := hid (K.out.trans (hb.out.mono K.out.size))
  clear CT hb hO
  go_wp2
  go_ret2
  exact ⟨_, rfl, HO, K⟩
set_option maxHeartbeats 3200000 in
theorem pwrite_bad {w : World} {m : Md} {l : List De} {t : Nat → Nat} (h : Prd w w.heap.size m l t) (hm : ¬ PMay m l t) :
    Calls Tryz.prog 7 #[.agg (mdc m)] w fun e w' => e = .returned (.tuple #[.slice none 0 0, .int .i64 100]) ∧ Hid (Below w.heap.size w w') := by
  obtain ⟨W, hW⟩ : ∃ W, W = w.alloc (.cells (mdc m) 31) := ⟨_, rfl⟩
  have K := hid (show Below w.heap.size w W from hW ▸ (Below.refl _ w).alloc (Nat.le_refl _) _)
  have X := hid (show Pbox W w.heap.size m from hW ▸ heap_alloc_new w _)
  have HW := hid hW
  have CM := hid (pmay_any (P := False) (h.on K.out) (hid ⟨fun h => h.elim, fun x => hm x⟩))
  clear hW h
  go_enter Tryz.func7, Tryz.ntmps7
  go_upto_region 1 with fail
  rw [← HW.out]
  clear HW
  go_wp2_with (first | (with_reducible refine wp_gmail (by kernel_rfl) (.tmp 1) rfl w.heap.size m rfl X.out ?_) | fail)
  refine CM.out.mono ?_
  rintro e v1 ⟨r, rfl, hr, hb⟩
  obtain rfl : r = false := by cases r with | false => rfl | true => exact (hr.out.1 rfl).elim
  replace K := hid (K.out.trans (hb.out.mono K.out.size))
  clear CM hb hr
  go_wp2
  go_ret2
  exact ⟨rfl, K⟩
open Go.RowKit Go.Shelf Go.Lib
set_option maxRecDepth 100000
def Sty (e : TypeId) : Prop := e = 73 ∨ e = 75 ∨ e = 5
structure Sto (L : Nat) (X Y : World) : Prop where
  os : Y.os = X.os
  tape : Y.tape = X.tape
  output : Y.output = X.output
  size : X.heap.size ≤ Y.heap.size
  block : ∀ b, b < X.heap.size → (b < L ∨ ∀ cs e fr, X.heap[b]? = some (.cells cs e fr) → ¬ Sty e) → Y.heap[b]? = X.heap[b]?
  row : ∀ (b : Nat) cs e fr, X.heap[b]? = some (.cells cs e fr) → ∃ cs', Y.heap[b]? = some (.cells cs' e fr) ∧ cs'.size = cs.size
theorem Sto.refl (L : Nat) (X : World) : Sto L X X := ⟨rfl, rfl, rfl, Nat.le_refl _, fun _ _ _ => rfl, fun _ cs _ _ h => ⟨cs, h, rfl⟩⟩
theorem Sto.trans {L : Nat} {X Y Z : World} (h : Sto L X Y) (k : Sto L Y Z) : Sto L X Z :=
  ⟨k.os.trans h.os, k.tape.trans h.tape, k.output.trans h.output, Nat.le_trans h.size k.size, fun b hb hn => by
    have h1 := h.block b hb hn
    refine (k.block b (Nat.lt_of_lt_of_le hb h.size) (hn.imp id fun hn cs e fr e1 => hn cs e fr (h1.symm.trans e1))).trans h1, fun b cs e fr hc => by
    obtain ⟨c1, e1, s1⟩ := h.row b cs e fr hc
    obtain ⟨c2, e2, s2⟩ := k.row b c1 e fr e1
    exact ⟨c2, e2, s2.trans s1⟩⟩
theorem Sto.of_below {L : Nat} {X Y : World} (h : Below X.heap.size X Y) : Sto L X Y :=
  ⟨h.os, h.tape, h.output, h.size, fun b hb _ => h.block b hb, fun b cs _ _ hc => ⟨cs, (h.block b (lt_of_heap hc)).trans hc, rfl⟩⟩
theorem Sto.bel {L : Nat} {X Y : World} (h : Sto L X Y) (hL : L ≤ X.heap.size) : Below L X Y := ⟨h.os, h.tape, h.output, h.size, fun b hb => h.block b (by omega) (.inl hb)⟩
theorem Sto.set {L g : Nat} {X : World} {cs : Array Value} {e : TypeId} (hg : X.heap[g]? = some (.cells cs e (0, 0))) (hL : L ≤ g) (he : Sty e) (j : Nat) (v : Value) : Sto L X (X.setCell ⟨g, j, none⟩ v) := by
  have hs := heap_setCell_same X g j _ _ v hg
  refine ⟨rfl, rfl, rfl, by simp [World.setCell], fun b hb hn => Below.heap_setCell _ _ _ _ ?_, fun b cs' e' fr hc => ?_⟩
  · show b ≠ g
    rintro rfl
    rcases hn with hn | hn
    · omega
    · exact hn _ _ _ hg he
  · by_cases hbg : b = g
    · subst hbg
      rw [hg] at hc
      injection hc with hc
      injection hc with h1 h2 h3
      subst h1 h2 h3
      exact ⟨_, hs, by simp⟩
    · exact ⟨cs', (Below.heap_setCell _ _ _ _ hbg).trans hc, rfl⟩
theorem Sto.pbox {L g : Nat} {X Y : World} {m : Md} (h : Sto L X Y) (hp : Pbox X g m) : Pbox Y g m := (h.block g hp.lt (.inr fun cs _ _ hc => by
  have := hc.symm.trans hp
  injection this with this
  injection this with h1 h2 h3
  subst h2
  intro hs
  rcases hs with hs | hs | hs <;> exact absurd hs (by decide))).trans hp
def Spw (w : World) (L : Nat) (e : TypeId) (s : Nat) (A : Option Addr) (n c : Nat) : Prop :=
  n = 0 ∨ ∃ g cs, A = some ⟨g, 0, none⟩ ∧ L ≤ g ∧ w.heap[g]? = some (.cells cs e (0, 0)) ∧ n * s ≤ cs.size ∧ n ≤ c
theorem Spw.sto {X Y : World} {L M s n c : Nat} {e : TypeId} {A : Option Addr} (h : Spw X L e s A n c) (hs : Sto M X Y) : Spw Y L e s A n c := by
  rcases h with h | ⟨g, cs, hA, hg, hh, h1, h2⟩
  · exact .inl h
  · obtain ⟨cs', e1, e2⟩ := hs.row _ _ _ _ hh
    exact .inr ⟨g, cs', hA, hg, e1, by omega, h2⟩
theorem Spw.mono {X : World} {L M s n c : Nat} {e : TypeId} {A : Option Addr} (h : Spw X L e s A n c) (hm : M ≤ L) : Spw X M e s A n c := h.imp id fun ⟨g, cs, hA, hg, hh⟩ => ⟨g, cs, hA, by omega, hh⟩
theorem Mk.spw {w : World} {L n c : Nat} {A : Option Addr} {f : Nat → Nat} (h : Mk w 75 L A n c f) : Spw w L 75 1 A n c := by
  rcases h.own with ⟨_, h0, _⟩ | ⟨g, cs, hA, hg, hh, hs, _⟩
  · exact .inl h0
  · exact .inr ⟨g, cs, hA, hg, hh, by have := h.cap; omega, h.cap⟩
theorem Od.spw {w : World} {L n c : Nat} {A : Option Addr} {l : List De} (h : Od w L (.slice A n c) l) (hn : n = l.length) : Spw w L 73 2 A n c := by
  subst hn
  rcases h.own.2 with ⟨e, _⟩ | ⟨k, cap, cur, e, hk, hh, hc, hmx, hsz, _⟩
  · injection e with _ e _
    exact .inl e
  · injection e with e1 e2 e3
    subst e1 e3
    exact .inr ⟨k, cur, rfl, hk, hh, by omega, hc⟩
set_option maxHeartbeats 12800000 in
theorem spoilm_any {w : World} {m : Md} {L : Nat} (h1 : Spw w L 73 2 m.A m.n m.c) (h2 : Spw w L 75 1 m.T m.k m.d) (h3 : Spw w L 75 1 (m.D 0).A (m.D 0).n (m.D 0).c) (b1 : m.n ≤ 100000) (b2 : m.k ≤ 100000) (b3 : (m.D 0).n ≤ 100000) :
    Calls Tryz.prog 15 #[.agg (mdc m)] w fun e w' => e = .returned (.tuple #[]) ∧ Hid (Sto L w w') := by
  obtain ⟨W, hW⟩ : ∃ W, W = w.alloc (.cells (mdc m) 31) := ⟨_, rfl⟩
  have ST := hid (show Sto L w W from hW ▸ Sto.of_below ((Below.refl _ w).alloc (Nat.le_refl _) _))
  have P0 := hid (show Pbox W w.heap.size m from hW ▸ heap_alloc_new w _)
  have HW := hid hW
  have H1 := hid h1
  have H2 := hid h2
  have H3 := hid h3
  clear hW h1 h2 h3
  go_enter Tryz.func15, Tryz.ntmps15
  go_upto_region 1 with fail
  rw [← HW.out]
  clear HW
  go_wp2
  go_loopg [2] m.n (fun gg s2 wr => ∃ kk : Nat, kk ≤ m.n ∧ m.n - kk ≤ gg ∧ s2 = .int .i64 kk ∧ Hid (Pbox wr w.heap.size m) ∧ Hid (Sto L w wr))
  case atStart => exact ⟨0, Nat.zero_le _, by omega, rfl, P0, ST⟩
  case round =>
    obtain ⟨kk, hkk, hg, rfl, PX, SX⟩ := hrel
    have x19 := PX.out.c19
    by_cases hlt : kk < m.n
    case pos =>
      have hltz : (kk : Int) < (m.n : Int) := by omega
      rcases (H1.out.sto SX.out) with h0 | ⟨g, cs, hA, hL, hh, hs, hc⟩
      · omega
      rw [hA] at x19
      obtain ⟨u, hu⟩ : ∃ u, cs[kk * 2]? = some u := ⟨_, Array.getElem?_eq_getElem (by omega)⟩
      have hcell : wr.cell? ⟨g, kk * 2, none⟩ = some u := (cell_of_row wr g _ cs _ (0, 0) hh).trans hu
      have hfz : wr.frozen? ⟨g, kk * 2, none⟩ = false := frozen_of_row wr g _ cs _ hh
      have HS := hid (Sto.set hh hL (.inl rfl) (kk * 2) (.int .i64 (-7)))
      have hwi : IntKind.i64.wrap ((kk : Int) + 1) = (kk : Int) + 1 := IntWalk.i64_in _ (by omega)
      clear hh hs hc hu hA
      go_wp2
      go_roundg (m.n - (kk + 1))
      case measure => omega
      case rel => exact ⟨kk + 1, by omega, by omega, by go_num, hid (HS.out.pbox PX.out), hid (SX.out.trans HS.out)⟩
    have hltz : ¬ (kk : Int) < (m.n : Int) := by omega
    go_wp2
    clear x19 hltz hlt hkk hg
    go_loopg [3] m.k (fun gg s3 wr => ∃ kk : Nat, kk ≤ m.k ∧ m.k - kk ≤ gg ∧ s3 = .int .i64 kk ∧ Hid (Pbox wr w.heap.size m) ∧ Hid (Sto L w wr))
    case atStart => exact ⟨0, Nat.zero_le _, by omega, rfl, PX, SX⟩
    case round =>
      obtain ⟨jj, hkk, hg, rfl, PX, SX⟩ := hrel
      have x23 := PX.out.c23
      by_cases hlt : jj < m.k
      case pos =>
        have hltz : (jj : Int) < (m.k : Int) := by omega
        rcases (H2.out.sto SX.out) with h0 | ⟨g, cs, hA, hL, hh, hs, hc⟩
        · omega
        rw [hA] at x23
        obtain ⟨u, hu⟩ : ∃ u, cs[jj]? = some u := ⟨_, Array.getElem?_eq_getElem (by omega)⟩
        have hcell : wr.cell? ⟨g, jj, none⟩ = some u := (cell_of_row wr g _ cs _ (0, 0) hh).trans hu
        have hfz : wr.frozen? ⟨g, jj, none⟩ = false := frozen_of_row wr g _ cs _ hh
        have HS := hid (Sto.set hh hL (.inr (.inl rfl)) jj (.int .u32 7))
        have hwi : IntKind.i64.wrap ((jj : Int) + 1) = (jj : Int) + 1 := IntWalk.i64_in _ (by omega)
        clear hh hs hc hu hA
        go_wp2
        go_roundg (m.k - (jj + 1))
        case measure => omega
        case rel => exact ⟨jj + 1, by omega, by omega, by go_num, hid (HS.out.pbox PX.out), hid (SX.out.trans HS.out)⟩
      have hltz : ¬ (jj : Int) < (m.k : Int) := by omega
      go_wp2
      clear x23 hltz hlt hkk hg
      go_loopg [4] (m.D 0).n (fun gg s4 wr => ∃ kk : Nat, kk ≤ (m.D 0).n ∧ (m.D 0).n - kk ≤ gg ∧ s4 = .int .i64 kk ∧ Hid (Pbox wr w.heap.size m) ∧ Hid (Sto L w wr))
      case atStart => exact ⟨0, Nat.zero_le _, by omega, rfl, PX, SX⟩
      case round =>
        obtain ⟨ii, hkk, hg, rfl, PX, SX⟩ := hrel
        have x7 := PX.out.c7
        by_cases hlt : ii < (m.D 0).n
        case pos =>
          have hltz : (ii : Int) < ((m.D 0).n : Int) := by omega
          rcases (H3.out.sto SX.out) with h0 | ⟨g, cs, hA, hL, hh, hs, hc⟩
          · omega
          rw [hA] at x7
          obtain ⟨u, hu⟩ : ∃ u, cs[ii]? = some u := ⟨_, Array.getElem?_eq_getElem (by omega)⟩
          have hcell : wr.cell? ⟨g, ii, none⟩ = some u := (cell_of_row wr g _ cs _ (0, 0) hh).trans hu
          have hfz : wr.frozen? ⟨g, ii, none⟩ = false := frozen_of_row wr g _ cs _ hh
          have HS := hid (Sto.set hh hL (.inr (.inl rfl)) ii (.int .u32 7))
          have hwi : IntKind.i64.wrap ((ii : Int) + 1) = (ii : Int) + 1 := IntWalk.i64_in _ (by omega)
          clear hh hs hc hu hA
          go_wp2
          go_roundg ((m.D 0).n - (ii + 1))
          case measure => omega
          case rel => exact ⟨ii + 1, by omega, by omega, by go_num, hid (HS.out.pbox PX.out), hid (SX.out.trans HS.out)⟩
        have hltz : ¬ (ii : Int) < ((m.D 0).n : Int) := by omega
        go_wp2
        go_end0
        exact ⟨rfl, SX⟩
open Go.RowKit Go.Shelf Go.Lib
set_option maxRecDepth 100000
set_option maxHeartbeats 12800000 in
theorem psame_bad0 {w : World} {m o : Md} {P : Prop} (HN : Hid (¬ P)) (h0 : ((m.kd : Int) == (o.kd : Int)) = false) :
    Calls Tryz.prog 13 #[.agg (mdc m), .agg (mdc o)] w (Says w P) := by
  obtain ⟨W, hW⟩ : ∃ W, W = (w.alloc (.cells (mdc m) 31)).alloc (.cells (mdc o) 31) := ⟨_, rfl⟩
  have K := hid (show Below w.heap.size w W from hW ▸ ((Below.refl _ w).alloc (Nat.le_refl _) _).alloc (by simp) _)
  have X := hid (show Pbox W w.heap.size m from hW ▸ pheap0 w _ _)
  have Y := hid (show Pbox W (w.heap.size + 1) o from hW ▸ pheap1 w _ _)
  have HW := hid hW
  clear hW
  have x0 := X.out.c0
  have y0 := Y.out.c0
  clear X Y
  go_enter Tryz.func13, Tryz.ntmps13
  go_upto_region 1 with fail
  rw [← HW.out]
  clear HW
  go_wp2
  all_goals
    go_ret
    exact ⟨false, rfl, hid ⟨(fun h => by cases h), fun hp => absurd hp HN.out⟩, K⟩
set_option maxHeartbeats 12800000 in
theorem psame_bad1 {w : World} {m o : Md} {P : Prop} (HN : Hid (¬ P)) (h0 : ((m.kd : Int) == (o.kd : Int)) = true) (h1 : (m.fr == o.fr) = false) :
    Calls Tryz.prog 13 #[.agg (mdc m), .agg (mdc o)] w (Says w P) := by
  obtain ⟨W, hW⟩ : ∃ W, W = (w.alloc (.cells (mdc m) 31)).alloc (.cells (mdc o) 31) := ⟨_, rfl⟩
  have K := hid (show Below w.heap.size w W from hW ▸ ((Below.refl _ w).alloc (Nat.le_refl _) _).alloc (by simp) _)
  have X := hid (show Pbox W w.heap.size m from hW ▸ pheap0 w _ _)
  have Y := hid (show Pbox W (w.heap.size + 1) o from hW ▸ pheap1 w _ _)
  have HW := hid hW
  clear hW
  have x0 := X.out.c0
  have y0 := Y.out.c0
  have x1 := X.out.c1
  have y1 := Y.out.c1
  clear X Y
  go_enter Tryz.func13, Tryz.ntmps13
  go_upto_region 1 with fail
  rw [← HW.out]
  clear HW
  go_wp2
  all_goals
    go_ret
    exact ⟨false, rfl, hid ⟨(fun h => by cases h), fun hp => absurd hp HN.out⟩, K⟩
set_option maxHeartbeats 12800000 in
theorem psame_bad2 {w : World} {m o : Md} {P : Prop} (HN : Hid (¬ P)) (h0 : ((m.kd : Int) == (o.kd : Int)) = true) (h1 : (m.fr == o.fr) = true) (h2 : (m.tu == o.tu) = false) :
    Calls Tryz.prog 13 #[.agg (mdc m), .agg (mdc o)] w (Says w P) := by
  obtain ⟨W, hW⟩ : ∃ W, W = (w.alloc (.cells (mdc m) 31)).alloc (.cells (mdc o) 31) := ⟨_, rfl⟩
  have K := hid (show Below w.heap.size w W from hW ▸ ((Below.refl _ w).alloc (Nat.le_refl _) _).alloc (by simp) _)
  have X := hid (show Pbox W w.heap.size m from hW ▸ pheap0 w _ _)
  have Y := hid (show Pbox W (w.heap.size + 1) o from hW ▸ pheap1 w _ _)
  have HW := hid hW
  clear hW
  have x0 := X.out.c0
  have y0 := Y.out.c0
  have x1 := X.out.c1
  have y1 := Y.out.c1
  have x2 := X.out.c2
  have y2 := Y.out.c2
  clear X Y
  go_enter Tryz.func13, Tryz.ntmps13
  go_upto_region 1 with fail
  rw [← HW.out]
  clear HW
  go_wp2
  all_goals
    go_ret
    exact ⟨false, rfl, hid ⟨(fun h => by cases h), fun hp => absurd hp HN.out⟩, K⟩
open Go.RowKit Go.Shelf Go.Lib
set_option maxRecDepth 100000
set_option maxHeartbeats 12800000 in
theorem psame_bad3 {w : World} {m o : Md} {P : Prop} (HN : Hid (¬ P)) (h0 : ((m.kd : Int) == (o.kd : Int)) = true) (h1 : (m.fr == o.fr) = true) (h2 : (m.tu == o.tu) = true) (h3 : (m.ep == o.ep) = false) :
    Calls Tryz.prog 13 #[.agg (mdc m), .agg (mdc o)] w (Says w P) := by
  obtain ⟨W, hW⟩ : ∃ W, W = (w.alloc (.cells (mdc m) 31)).alloc (.cells (mdc o) 31) := ⟨_, rfl⟩
  have K := hid (show Below w.heap.size w W from hW ▸ ((Below.refl _ w).alloc (Nat.le_refl _) _).alloc (by simp) _)
  have X := hid (show Pbox W w.heap.size m from hW ▸ pheap0 w _ _)
  have Y := hid (show Pbox W (w.heap.size + 1) o from hW ▸ pheap1 w _ _)
  have HW := hid hW
  clear hW
  have x0 := X.out.c0
  have y0 := Y.out.c0
  have x1 := X.out.c1
  have y1 := Y.out.c1
  have x2 := X.out.c2
  have y2 := Y.out.c2
  have x3 := X.out.c3
  have y3 := Y.out.c3
  clear X Y
  go_enter Tryz.func13, Tryz.ntmps13
  go_upto_region 1 with fail
  rw [← HW.out]
  clear HW
  go_wp2
  all_goals
    go_ret
    exact ⟨false, rfl, hid ⟨(fun h => by cases h), fun hp => absurd hp HN.out⟩, K⟩
set_option maxHeartbeats 12800000 in
theorem psame_bad4 {w : World} {m o : Md} {P : Prop} (HN : Hid (¬ P)) (h0 : ((m.kd : Int) == (o.kd : Int)) = true) (h1 : (m.fr == o.fr) = true) (h2 : (m.tu == o.tu) = true) (h3 : (m.ep == o.ep) = true) (h4 : (m.nu == o.nu) = false) :
    Calls Tryz.prog 13 #[.agg (mdc m), .agg (mdc o)] w (Says w P) := by
  obtain ⟨W, hW⟩ : ∃ W, W = (w.alloc (.cells (mdc m) 31)).alloc (.cells (mdc o) 31) := ⟨_, rfl⟩
  have K := hid (show Below w.heap.size w W from hW ▸ ((Below.refl _ w).alloc (Nat.le_refl _) _).alloc (by simp) _)
  have X := hid (show Pbox W w.heap.size m from hW ▸ pheap0 w _ _)
  have Y := hid (show Pbox W (w.heap.size + 1) o from hW ▸ pheap1 w _ _)
  have HW := hid hW
  clear hW
  have x0 := X.out.c0
  have y0 := Y.out.c0
  have x1 := X.out.c1
  have y1 := Y.out.c1
  have x2 := X.out.c2
  have y2 := Y.out.c2
  have x3 := X.out.c3
  have y3 := Y.out.c3
  have x4 := X.out.c4
  have y4 := Y.out.c4
  clear X Y
  go_enter Tryz.func13, Tryz.ntmps13
  go_upto_region 1 with fail
  rw [← HW.out]
  clear HW
  go_wp2
  all_goals
    go_ret
    exact ⟨false, rfl, hid ⟨(fun h => by cases h), fun hp => absurd hp HN.out⟩, K⟩
set_option maxHeartbeats 12800000 in
theorem psame_bad5 {w : World} {m o : Md} {P : Prop} (HN : Hid (¬ P)) (h0 : ((m.kd : Int) == (o.kd : Int)) = true) (h1 : (m.fr == o.fr) = true) (h2 : (m.tu == o.tu) = true) (h3 : (m.ep == o.ep) = true) (h4 : (m.nu == o.nu) = true) (h5 : (m.ab == o.ab) = false) :
    Calls Tryz.prog 13 #[.agg (mdc m), .agg (mdc o)] w (Says w P) := by
  obtain ⟨W, hW⟩ : ∃ W, W = (w.alloc (.cells (mdc m) 31)).alloc (.cells (mdc o) 31) := ⟨_, rfl⟩
  have K := hid (show Below w.heap.size w W from hW ▸ ((Below.refl _ w).alloc (Nat.le_refl _) _).alloc (by simp) _)
  have X := hid (show Pbox W w.heap.size m from hW ▸ pheap0 w _ _)
  have Y := hid (show Pbox W (w.heap.size + 1) o from hW ▸ pheap1 w _ _)
  have HW := hid hW
  clear hW
  have x0 := X.out.c0
  have y0 := Y.out.c0
  have x1 := X.out.c1
  have y1 := Y.out.c1
  have x2 := X.out.c2
  have y2 := Y.out.c2
  have x3 := X.out.c3
  have y3 := Y.out.c3
  have x4 := X.out.c4
  have y4 := Y.out.c4
  have x5 := X.out.c5
  have y5 := Y.out.c5
  clear X Y
  go_enter Tryz.func13, Tryz.ntmps13
  go_upto_region 1 with fail
  rw [← HW.out]
  clear HW
  go_wp2
  all_goals
    go_ret
    exact ⟨false, rfl, hid ⟨(fun h => by cases h), fun hp => absurd hp HN.out⟩, K⟩
open Go.RowKit Go.Shelf Go.Lib
set_option maxRecDepth 100000
set_option maxHeartbeats 12800000 in
theorem psame_rest {w : World} {m o : Md} {l r : List De} {t u : Nat → Nat} {P : Prop} (h : Prd w w.heap.size m l t) (k : Prd w w.heap.size o r u) (HP : Hid (P ↔ PSm m o l r t u)) (hi : ISm m o) (h0 : ((m.kd : Int) == (o.kd : Int)) = true) (h1 : (m.fr == o.fr) = true) (h2 : (m.tu == o.tu) = true) (h3 : (m.ep == o.ep) = true) (h4 : (m.nu == o.nu) = true) (h5 : (m.ab == o.ab) = true) :
    Calls Tryz.prog 13 #[.agg (mdc m), .agg (mdc o)] w (Says w P) := by
  obtain ⟨W, hW⟩ : ∃ W, W = (w.alloc (.cells (mdc m) 31)).alloc (.cells (mdc o) 31) := ⟨_, rfl⟩
  have K := hid (show Below w.heap.size w W from hW ▸ ((Below.refl _ w).alloc (Nat.le_refl _) _).alloc (by simp) _)
  have X := hid (show Pbox W w.heap.size m from hW ▸ pheap0 w _ _)
  have Y := hid (show Pbox W (w.heap.size + 1) o from hW ▸ pheap1 w _ _)
  have HW := hid hW
  clear hW
  have H := hid h
  have H2 := hid k
  have HI := hid hi
  clear h k hi
  have x0 := X.out.c0
  have y0 := Y.out.c0
  have x1 := X.out.c1
  have y1 := Y.out.c1
  have x2 := X.out.c2
  have y2 := Y.out.c2
  have x3 := X.out.c3
  have y3 := Y.out.c3
  have x4 := X.out.c4
  have y4 := Y.out.c4
  have x5 := X.out.c5
  have y5 := Y.out.c5
  have CM := hid (emsame_raw (P := ∀ k, k < 4 → Dsm (m.D k) (o.D k)) (H.out.on K.out).ms (H2.out.on K.out).ms (hid Iff.rfl))
  go_enter Tryz.func13, Tryz.ntmps13
  go_upto_region 1 with fail
  rw [← HW.out]
  clear HW
  go_wp2_with (first | (with_reducible refine wp_gmass (by kernel_rfl) (.tmp 46) rfl w.heap.size m rfl X.out ?_) | (with_reducible refine wp_gmass (by kernel_rfl) (.tmp 48) rfl (w.heap.size + 1) o rfl Y.out ?_) | fail)
  refine CM.out.mono ?_
  rintro e v1 ⟨q, rfl, hr, hb⟩
  clear x0 x1 x2 x3 x4 x5 y0 y1 y2 y3 y4 y5 CM
  replace K := hid (K.out.trans (hb.out.mono K.out.size))
  replace X := hid (X.out.below hb.out X.out.lt)
  replace Y := hid (Y.out.below hb.out Y.out.lt)
  clear hb
  cases q with
  | false =>
    go_wp2
    all_goals
      go_ret
      exact ⟨false, rfl, hid ⟨(fun h => by cases h), fun hp => by obtain ⟨a1, a2, a3, a4, a5, a6⟩ := HP.out.1 hp; exact absurd (hr.out.2 a2) (by decide)⟩, K⟩
  | true =>
    have HM := hid (hr.out.1 rfl)
    clear hr
    have x18 := X.out.c18
    have y18 := Y.out.c18
    cases hwa : (m.wa == o.wa) with
    | false =>
      have HWa := hid (beq_eq_false_iff_ne.1 hwa)
      go_wp2
      all_goals
        go_ret
        exact ⟨false, rfl, hid ⟨(fun h => by cases h), fun hp => by obtain ⟨a1, a2, a3, a4, a5, a6⟩ := HP.out.1 hp; exact absurd a3 HWa.out⟩, K⟩
    | true =>
      have HWa := hid (beq_iff_eq.1 hwa)
      have x19 := X.out.c19
      have y19 := Y.out.c19
      have CL := hid (krsame_says (P := l = r) (H.out.on K.out).ls (H2.out.on K.out).ls (hid Iff.rfl))
      go_wp2_with fail
      refine CL.out.mono ?_
      rintro e v2 ⟨q, rfl, hr, hb⟩
      clear x18 y18 x19 y19 CL
      replace K := hid (K.out.trans (hb.out.mono K.out.size))
      replace X := hid (X.out.below hb.out X.out.lt)
      replace Y := hid (Y.out.below hb.out Y.out.lt)
      clear hb
      cases q with
      | false =>
        go_wp2
        all_goals
          go_ret
          exact ⟨false, rfl, hid ⟨(fun h => by cases h), fun hp => by obtain ⟨a1, a2, a3, a4, a5, a6⟩ := HP.out.1 hp; exact absurd (hr.out.2 a4) (by decide)⟩, K⟩
      | true =>
        have HL := hid (hr.out.1 rfl)
        clear hr
        have hg := grdE
        by_cases he : m.ha = o.ha ∧ m.mn = o.mn ∧ m.mx = o.mx
        case neg =>
          have HE := hid he
          have hq : ∀ W, Sem.run Tryz.prog (binOp .eql 29 (.agg #[.bool m.ha, .int .i64 m.mn, .int .i64 m.mx]) (.agg #[.bool o.ha, .int .i64 o.mn, .int .i64 o.mx])) W = .ok (.bool false) W := fun W => by rw [eqlE, decide_eq_false he]
          clear he
          go_wp2_with (first | (with_reducible refine wp_gedge (by kernel_rfl) (.tmp 67) rfl w.heap.size m rfl X.out ?_) | (with_reducible refine wp_gedge (by kernel_rfl) (.tmp 69) rfl (w.heap.size + 1) o rfl Y.out ?_) | fail)
          go_wp2
          all_goals
            go_ret
            exact ⟨false, rfl, hid ⟨(fun h => by cases h), fun hp => by obtain ⟨a1, a2, a3, a4, a5, a6⟩ := HP.out.1 hp; exact absurd a5 HE.out⟩, K⟩
        have HE := hid he
        have hq : ∀ W, Sem.run Tryz.prog (binOp .eql 29 (.agg #[.bool m.ha, .int .i64 m.mn, .int .i64 m.mx]) (.agg #[.bool o.ha, .int .i64 o.mn, .int .i64 o.mx])) W = .ok (.bool true) W := fun W => by rw [eqlE, decide_eq_true he]
        clear he
        have x23 := X.out.c23
        have y23 := Y.out.c23
        have CT := hid (esametags_any (H.out.on K.out).tg (H2.out.on K.out).tg (Nat.le_refl _) (Nat.le_refl _) (P := m.k = o.k ∧ ∀ j, t j = u j) (hid Iff.rfl))
        go_wp2_with (first | (with_reducible refine wp_gedge (by kernel_rfl) (.tmp 67) rfl w.heap.size m rfl X.out ?_) | (with_reducible refine wp_gedge (by kernel_rfl) (.tmp 69) rfl (w.heap.size + 1) o rfl Y.out ?_) | fail)
        refine CT.out.mono ?_
        rintro e v3 ⟨q, rfl, hr, hb⟩
        clear x23 y23 CT
        replace K := hid (K.out.trans (hb.out.mono K.out.size))
        replace X := hid (X.out.below hb.out X.out.lt)
        replace Y := hid (Y.out.below hb.out Y.out.lt)
        clear hb
        cases q with
        | false =>
          go_wp2
          all_goals
            go_ret
            exact ⟨false, rfl, hid ⟨(fun h => by cases h), fun hp => by obtain ⟨a1, a2, a3, a4, a5, a6⟩ := HP.out.1 hp; exact absurd (hr.out.2 a6) (by decide)⟩, K⟩
        | true =>
          have HT := hid (hr.out.1 rfl)
          clear hr
          go_wp2
          go_ret
          exact ⟨true, rfl, hid ⟨fun _ => HP.out.2 ⟨HI.out, HM.out, HWa.out, HL.out, HE.out, HT.out⟩, fun _ => rfl⟩, K⟩
open Go.RowKit Go.Shelf Go.Lib
theorem psame_any {w : World} {m o : Md} {l r : List De} {t u : Nat → Nat} {P : Prop} (h : Prd w w.heap.size m l t) (k : Prd w w.heap.size o r u) (HP : Hid (P ↔ PSm m o l r t u)) :
    Calls Tryz.prog 13 #[.agg (mdc m), .agg (mdc o)] w (Says w P) := by
  cases h0 : ((m.kd : Int) == (o.kd : Int)) with
  | false => exact psame_bad0 (hid fun hp => by have := (HP.out.1 hp).1; obtain ⟨a0, a1, a2, a3, a4, a5⟩ := this; rw [a0] at h0; simp at h0) h0
  | true =>
  cases h1 : (m.fr == o.fr) with
  | false => exact psame_bad1 (hid fun hp => by have := (HP.out.1 hp).1; obtain ⟨a0, a1, a2, a3, a4, a5⟩ := this; rw [a1] at h1; simp at h1) h0 h1
  | true =>
  cases h2 : (m.tu == o.tu) with
  | false => exact psame_bad2 (hid fun hp => by have := (HP.out.1 hp).1; obtain ⟨a0, a1, a2, a3, a4, a5⟩ := this; rw [a2] at h2; simp at h2) h0 h1 h2
  | true =>
  cases h3 : (m.ep == o.ep) with
  | false => exact psame_bad3 (hid fun hp => by have := (HP.out.1 hp).1; obtain ⟨a0, a1, a2, a3, a4, a5⟩ := this; rw [a3] at h3; simp at h3) h0 h1 h2 h3
  | true =>
  cases h4 : (m.nu == o.nu) with
  | false => exact psame_bad4 (hid fun hp => by have := (HP.out.1 hp).1; obtain ⟨a0, a1, a2, a3, a4, a5⟩ := this; rw [a4] at h4; simp at h4) h0 h1 h2 h3 h4
  | true =>
  cases h5 : (m.ab == o.ab) with
  | false => exact psame_bad5 (hid fun hp => by have := (HP.out.1 hp).1; obtain ⟨a0, a1, a2, a3, a4, a5⟩ := this; rw [a5] at h5; simp at h5) h0 h1 h2 h3 h4 h5
  | true =>
  exact psame_rest h k HP ⟨by have := beq_iff_eq.1 h0; omega, beq_iff_eq.1 h1, beq_iff_eq.1 h2, beq_iff_eq.1 h3, beq_iff_eq.1 h4, beq_iff_eq.1 h5⟩ h0 h1 h2 h3 h4 h5
end Go.Proofs.YtbankbehfjogpaaGreat
namespace Go.Proofs.YtbankbehfjogpaaGreat
set_option maxRecDepth 100000
open Go.RowKit Go.Shelf
def MGr (D : Nat → Dy) : Prop := ∃ k, k < 4 ∧ (42 < (D k).n ∨ 1100 < (D k).x)
set_option maxHeartbeats 1600000 in
theorem mgreat_any {w : World} {D : Nat → Dy} (hn : ∀ k, k < 4 → (D k).n ≤ 140737488355328) :
    Calls Tryz.prog 16 #[.agg (mcells D)] w fun e w' => ∃ r : Bool, e = .returned (.bool r) ∧ Hid (r = true ↔ MGr D) ∧ Hid (Below w.heap.size w w') := by
  obtain ⟨W, hW⟩ : ∃ W, W = w.alloc (.cells (mcells D) 26) := ⟨_, rfl⟩
  have HW := hid hW
  have K := hid (show Below w.heap.size w W from hW ▸ (Below.refl _ w).alloc (Nat.le_refl _) _)
  have P := hid (show Mbox W w.heap.size D from hW ▸ heap_alloc_new w _)
  have Hn := hid hn
  clear hW hn
  by_cases h0 : 42 < (D 0).n ∨ 1100 < (D 0).x
  · replace h0 := hid h0
    go_enter Tryz.func16, Tryz.ntmps16
    go_upto_region 1 with fail
    rw [← HW.out]
    have a0 := P.out.at_ 0 _ rfl
    have a1 := P.out.at_ 1 _ rfl
    have a2 := P.out.at_ 2 _ rfl
    go_wp2_with fail
    refine (dgreat_any _ _ _ _ _ _ (Hn.out 0 (by omega))).mono ?_
    rintro e w0 ⟨rfl, hb⟩
    rw [bool_of_dec h0.out]
    clear a0 a1 a2
    replace K := hid (K.out.trans (hb.out.mono K.out.size))
    replace P := hid (P.out.below hb.out P.out.lt)
    clear hb
    go_wp2
    go_ret
    exact ⟨true, rfl, ⟨fun _ => ⟨0, by omega, h0.out⟩, fun _ => rfl⟩, K.out⟩
  · replace h0 := hid h0
    by_cases h1 : 42 < (D 1).n ∨ 1100 < (D 1).x
    · replace h1 := hid h1
      go_enter Tryz.func16, Tryz.ntmps16
      go_upto_region 1 with fail
      rw [← HW.out]
      have a0 := P.out.at_ 0 _ rfl
      have a1 := P.out.at_ 1 _ rfl
      have a2 := P.out.at_ 2 _ rfl
      go_wp2_with fail
      refine (dgreat_any _ _ _ _ _ _ (Hn.out 0 (by omega))).mono ?_
      rintro e w0 ⟨rfl, hb⟩
      rw [bool_of_not h0.out]
      clear a0 a1 a2
      replace K := hid (K.out.trans (hb.out.mono K.out.size))
      replace P := hid (P.out.below hb.out P.out.lt)
      clear hb
      have a0 := P.out.at_ 3 _ rfl
      have a1 := P.out.at_ 4 _ rfl
      have a2 := P.out.at_ 5 _ rfl
      go_wp2_with fail
      refine (dgreat_any _ _ _ _ _ _ (Hn.out 1 (by omega))).mono ?_
      rintro e w1 ⟨rfl, hb⟩
      rw [bool_of_dec h1.out]
      clear a0 a1 a2
      replace K := hid (K.out.trans (hb.out.mono K.out.size))
      replace P := hid (P.out.below hb.out P.out.lt)
      clear hb
      go_wp2
      go_ret
      exact ⟨true, rfl, ⟨fun _ => ⟨1, by omega, h1.out⟩, fun _ => rfl⟩, K.out⟩
    · replace h1 := hid h1
      by_cases h2 : 42 < (D 2).n ∨ 1100 < (D 2).x
      · replace h2 := hid h2
        go_enter Tryz.func16, Tryz.ntmps16
        go_upto_region 1 with fail
        rw [← HW.out]
        have a0 := P.out.at_ 0 _ rfl
        have a1 := P.out.at_ 1 _ rfl
        have a2 := P.out.at_ 2 _ rfl
        go_wp2_with fail
        refine (dgreat_any _ _ _ _ _ _ (Hn.out 0 (by omega))).mono ?_
        rintro e w0 ⟨rfl, hb⟩
        rw [bool_of_not h0.out]
        clear a0 a1 a2
        replace K := hid (K.out.trans (hb.out.mono K.out.size))
        replace P := hid (P.out.below hb.out P.out.lt)
        clear hb
        have a0 := P.out.at_ 3 _ rfl
        have a1 := P.out.at_ 4 _ rfl
        have a2 := P.out.at_ 5 _ rfl
        go_wp2_with fail
        refine (dgreat_any _ _ _ _ _ _ (Hn.out 1 (by omega))).mono ?_
        rintro e w1 ⟨rfl, hb⟩
        rw [bool_of_not h1.out]
        clear a0 a1 a2
        replace K := hid (K.out.trans (hb.out.mono K.out.size))
        replace P := hid (P.out.below hb.out P.out.lt)
        clear hb
        have a0 := P.out.at_ 6 _ rfl
        have a1 := P.out.at_ 7 _ rfl
        have a2 := P.out.at_ 8 _ rfl
        go_wp2_with fail
        refine (dgreat_any _ _ _ _ _ _ (Hn.out 2 (by omega))).mono ?_
        rintro e w2 ⟨rfl, hb⟩
        rw [bool_of_dec h2.out]
        clear a0 a1 a2
        replace K := hid (K.out.trans (hb.out.mono K.out.size))
        replace P := hid (P.out.below hb.out P.out.lt)
        clear hb
        go_wp2
        go_ret
        exact ⟨true, rfl, ⟨fun _ => ⟨2, by omega, h2.out⟩, fun _ => rfl⟩, K.out⟩
      · replace h2 := hid h2
        by_cases h3 : 42 < (D 3).n ∨ 1100 < (D 3).x
        · replace h3 := hid h3
          go_enter Tryz.func16, Tryz.ntmps16
          go_upto_region 1 with fail
          rw [← HW.out]
          have a0 := P.out.at_ 0 _ rfl
          have a1 := P.out.at_ 1 _ rfl
          have a2 := P.out.at_ 2 _ rfl
          go_wp2_with fail
          refine (dgreat_any _ _ _ _ _ _ (Hn.out 0 (by omega))).mono ?_
          rintro e w0 ⟨rfl, hb⟩
          rw [bool_of_not h0.out]
          clear a0 a1 a2
          replace K := hid (K.out.trans (hb.out.mono K.out.size))
          replace P := hid (P.out.below hb.out P.out.lt)
          clear hb
          have a0 := P.out.at_ 3 _ rfl
          have a1 := P.out.at_ 4 _ rfl
          have a2 := P.out.at_ 5 _ rfl
          go_wp2_with fail
          refine (dgreat_any _ _ _ _ _ _ (Hn.out 1 (by omega))).mono ?_
          rintro e w1 ⟨rfl, hb⟩
          rw [bool_of_not h1.out]
          clear a0 a1 a2
          replace K := hid (K.out.trans (hb.out.mono K.out.size))
          replace P := hid (P.out.below hb.out P.out.lt)
          clear hb
          have a0 := P.out.at_ 6 _ rfl
          have a1 := P.out.at_ 7 _ rfl
          have a2 := P.out.at_ 8 _ rfl
          go_wp2_with fail
          refine (dgreat_any _ _ _ _ _ _ (Hn.out 2 (by omega))).mono ?_
          rintro e w2 ⟨rfl, hb⟩
          rw [bool_of_not h2.out]
          clear a0 a1 a2
          replace K := hid (K.out.trans (hb.out.mono K.out.size))
          replace P := hid (P.out.below hb.out P.out.lt)
          clear hb
          have a0 := P.out.at_ 9 _ rfl
          have a1 := P.out.at_ 10 _ rfl
          have a2 := P.out.at_ 11 _ rfl
          go_wp2_with fail
          refine (dgreat_any _ _ _ _ _ _ (Hn.out 3 (by omega))).mono ?_
          rintro e w3 ⟨rfl, hb⟩
          rw [bool_of_dec h3.out]
          clear a0 a1 a2
          replace K := hid (K.out.trans (hb.out.mono K.out.size))
          replace P := hid (P.out.below hb.out P.out.lt)
          clear hb
          go_wp2
          go_ret
          exact ⟨true, rfl, ⟨fun _ => ⟨3, by omega, h3.out⟩, fun _ => rfl⟩, K.out⟩
        · replace h3 := hid h3
          go_enter Tryz.func16, Tryz.ntmps16
          go_upto_region 1 with fail
          rw [← HW.out]
          have a0 := P.out.at_ 0 _ rfl
          have a1 := P.out.at_ 1 _ rfl
          have a2 := P.out.at_ 2 _ rfl
          go_wp2_with fail
          refine (dgreat_any _ _ _ _ _ _ (Hn.out 0 (by omega))).mono ?_
          rintro e w0 ⟨rfl, hb⟩
          rw [bool_of_not h0.out]
          clear a0 a1 a2
          replace K := hid (K.out.trans (hb.out.mono K.out.size))
          replace P := hid (P.out.below hb.out P.out.lt)
          clear hb
          have a0 := P.out.at_ 3 _ rfl
          have a1 := P.out.at_ 4 _ rfl
          have a2 := P.out.at_ 5 _ rfl
          go_wp2_with fail
          refine (dgreat_any _ _ _ _ _ _ (Hn.out 1 (by omega))).mono ?_
          rintro e w1 ⟨rfl, hb⟩
          rw [bool_of_not h1.out]
          clear a0 a1 a2
          replace K := hid (K.out.trans (hb.out.mono K.out.size))
          replace P := hid (P.out.below hb.out P.out.lt)
          clear hb
          have a0 := P.out.at_ 6 _ rfl
          have a1 := P.out.at_ 7 _ rfl
          have a2 := P.out.at_ 8 _ rfl
          go_wp2_with fail
          refine (dgreat_any _ _ _ _ _ _ (Hn.out 2 (by omega))).mono ?_
          rintro e w2 ⟨rfl, hb⟩
          rw [bool_of_not h2.out]
          clear a0 a1 a2
          replace K := hid (K.out.trans (hb.out.mono K.out.size))
          replace P := hid (P.out.below hb.out P.out.lt)
          clear hb
          have a0 := P.out.at_ 9 _ rfl
          have a1 := P.out.at_ 10 _ rfl
          have a2 := P.out.at_ 11 _ rfl
          go_wp2_with fail
          refine (dgreat_any _ _ _ _ _ _ (Hn.out 3 (by omega))).mono ?_
          rintro e w3 ⟨rfl, hb⟩
          rw [bool_of_not h3.out]
          clear a0 a1 a2
          replace K := hid (K.out.trans (hb.out.mono K.out.size))
          replace P := hid (P.out.below hb.out P.out.lt)
          clear hb
          go_wp2
          go_ret
          exact ⟨false, rfl, ⟨(fun h => by cases h), fun ⟨k, hk, hg⟩ => absurd hg (all_of4 (P := fun k => ¬ (42 < (D k).n ∨ 1100 < (D k).x)) h0.out h1.out h2.out h3.out k hk)⟩, K.out⟩
open Go.RowKit Go.Shelf Go.Lib
set_option maxRecDepth 100000
def PGr (m : Md) : Prop := MGr m.D ∨ 70 < m.n ∨ 70 < m.k
set_option maxHeartbeats 6400000 in
theorem pgreat_any {w : World} {m : Md} {l : List De} {t : Nat → Nat} {P : Prop} (h : Prd w w.heap.size m l t) (HP : Hid (P ↔ PGr m)) :
    Calls Tryz.prog 4 #[.agg (mdc m)] w (Says w P) := by
  obtain ⟨W, hW⟩ : ∃ W, W = w.alloc (.cells (mdc m) 31) := ⟨_, rfl⟩
  have K := hid (show Below w.heap.size w W from hW ▸ (Below.refl _ w).alloc (Nat.le_refl _) _)
  have X := hid (show Pbox W w.heap.size m from hW ▸ heap_alloc_new w _)
  have HW := hid hW
  have CM := hid (mgreat_any (w := W) (D := m.D) (fun k hk => (h.ms k hk).max))
  clear hW h
  go_enter Tryz.func4, Tryz.ntmps4
  go_upto_region 1 with fail
  rw [← HW.out]
  clear HW
  go_wp2_with (first | (with_reducible refine wp_gmass (by kernel_rfl) (.tmp 3) rfl w.heap.size m rfl X.out ?_) | fail)
  refine CM.out.mono ?_
  rintro e v1 ⟨r, rfl, hr, hb⟩
  clear CM
  replace K := hid (K.out.trans (hb.out.mono K.out.size))
  replace X := hid (X.out.below hb.out X.out.lt)
  clear hb
  cases r with
  | true =>
    have HM := hid (hr.out.1 rfl)
    clear hr
    go_wp2
    go_ret
    exact ⟨true, rfl, hid ⟨fun _ => HP.out.2 (.inl HM.out), fun _ => rfl⟩, K⟩
  | false =>
    have HM : Hid (¬ MGr m.D) := hid (fun hm => absurd (hr.out.2 hm) (by decide))
    clear hr
    have x19 := X.out.c19
    have x23 := X.out.c23
    by_cases h1 : 70 < m.n
    · have hz : decide ((70 : Int) < (m.n : Int)) = true := decide_eq_true (by omega)
      have H1 := hid h1
      clear h1
      go_wp2
      go_ret
      exact ⟨true, rfl, hid ⟨fun _ => HP.out.2 (.inr (.inl H1.out)), fun _ => rfl⟩, K⟩
    · have hz : decide ((70 : Int) < (m.n : Int)) = false := decide_eq_false (by omega)
      have H1 := hid h1
      clear h1
      by_cases h2 : 70 < m.k
      · have hz2 : decide ((70 : Int) < (m.k : Int)) = true := decide_eq_true (by omega)
        have H2 := hid h2
        clear h2
        go_wp2
        go_ret
        exact ⟨true, by first | rfl | (simp only [hz2]; rfl), hid ⟨fun _ => HP.out.2 (.inr (.inr H2.out)), fun _ => rfl⟩, K⟩
      · have hz2 : decide ((70 : Int) < (m.k : Int)) = false := decide_eq_false (by omega)
        have H2 := hid h2
        clear h2
        go_wp2
        go_ret
        exact ⟨false, by first | rfl | (simp only [hz2]; rfl), hid ⟨(fun h => by cases h), fun hp => ((HP.out.1 hp).elim (fun hm => absurd hm HM.out) fun ho => ho.elim (fun q => absurd q H1.out) (fun q => absurd q H2.out))⟩, K⟩
end Go.Proofs.YtbankbehfjogpaaGreat
