/- Ratio, the document's side: Near. -/
import Derived.Test.YtnhnddhigbbleaaDoorQfc
import Derived.Test.YtnhnddhigbbleaaDoorEsum
namespace Go.Proofs.YtnhnddhigbbleaaDoor
open Go.RowKit

set_option maxHeartbeats 800000 in
theorem over2_out (A : Option Addr) (n c : Nat) (k : Int) (w : World) (hk : (n : Int) ≤ k) (_hk2 : k ≤ 9223372036854775807) :
    Calls Tryd.prog 22 #[.slice A n c, .int .i64 k] w fun e w' => e = .returned (.slice none 0 0) ∧ w = w' := by
  go_enter Tryd.func22, Tryd.ntmps22
  go_wp2
  go_ret
  exact ⟨rfl, rfl⟩

set_option maxHeartbeats 800000 in
theorem over2_in {w : World} {V n c k : Nat} {A : Option Addr} (hx : Bits w w.heap.size A n c V) (hl : 0 < n → tw (n - 1) ≤ V) (hn : n ≤ 4000) (hk : k < n) :
    Calls Tryd.prog 22 #[.slice A n c, .int .i64 (k : Int)] w fun e w' => ∃ v, e = .returned v ∧ Below w.heap.size w w' ∧ Bt w' w'.heap.size (V / tw k) v := by
  obtain ⟨b, off, rfl, hbB, hc⟩ := hx.at_ (by omega)
  have hcells := cells_of_bits (k := k) (n := n) (B := 0) (c := 0) (by omega) hc rfl rfl
  have hms := div_size hx.lt hk (hl (by omega))
  have Hcells := hid hcells
  have Hms := hid hms
  have hxc := hx.cap
  clear hx hl hcells hms hc
  go_enter Tryd.func22, Tryd.ntmps22
  go_wp2_with (at_builtin; refine wpList_append_copy rfl (.tmp 9) (.tmp 12) 43 rfl 5 (.int .u8 0) 1 Tryd.underlying43 info_u8 rfl (by decide) rfl rfl (by simp [dq]) (fun h => by cases h) Hcells.out (dq_one _ _ _) (by omega) ?_; intro v' w' hown' hbel')
  go_ret
  have h := hown'.out
  rw [← dg_div] at h
  obtain ⟨A1, c1, rfl, hb⟩ := Row.shape h Hms.out.1 (by omega)
  exact ⟨_, rfl, hbel'.out, _, _, _, rfl, hb, fun _ => Hms.out.2⟩

theorem over2_one {w : World} {V n c L : Nat} {A : Option Addr} (h : Bt w w.heap.size V (.slice A n c)) (hV : V < tw L) (hL : L ≤ 4000) (h0 : 0 < n) :
    Calls Tryd.prog 22 #[.slice A n c, .int .i64 1] w fun e w' => ∃ v, e = .returned v ∧ Below w.heap.size w w' ∧ Bt w' w'.heap.size (V / 2) v := by
  obtain ⟨A', n', c', he, hx, hl⟩ := h
  injection he with e1 e2 e3
  subst e1 e2 e3
  have hn : n ≤ L := Bt.len hl hV hx
  by_cases h1 : n = 1
  · subst h1
    refine (over2_out A 1 c 1 w (by omega) (by omega)).mono ?_
    rintro e w' ⟨rfl, rfl⟩
    have : V / 2 = 0 := by
      have := hx.lt
      have : tw 1 = 2 := rfl
      omega
    rw [this]
    exact ⟨_, rfl, Below.refl _ _, bt_nil _ _⟩
  · have := over2_in (k := 1) hx hl (by omega) (by omega)
    exact this
set_option maxHeartbeats 6400000 in
set_option maxRecDepth 100000 in
theorem enear_any {w : World} {p q : Prop} {M N : Int} {v u : Value} (h1 : DArg w p M v) (h2 : DArg w q N u) :
    Calls Tryd.prog 11 #[v, u] w (ERes w (Qer p q N 0 ((2 * M + N) / (2 * N) * (tp 4000 : Int))) ((2 * M + N) / (2 * N) * (tp 4000 : Int))) := by
  have CAs := fun X (hb : Below w.heap.size w X) => asked_any (k := 0) (h1.below hb) (h2.below hb)
  obtain ⟨s, A, n, c, f, x, rfl, ra, da, ma⟩ := h1
  obtain ⟨t, D, m, d, h, y, rfl, rb, db, mb⟩ := h2
  have K := hid ((((Below.refl w.heap.size w).alloc (Nat.le_refl _) (.cells #[.bool s, .slice A n c, .int .i64 x] 24)).alloc (by simp) (.cells #[.bool t, .slice D m d, .int .i64 y] 24)).alloc (by simp; omega) (.cells #[.bool false, .slice none 0 0, .int .i64 0] 24))
  have P0 : Hid (Dbox ((w.alloc (.cells #[.bool s, .slice A n c, .int .i64 x] 24)).alloc (.cells #[.bool t, .slice D m d, .int .i64 y] 24)) w.heap.size s (.slice A n c) x) := (Below.heap_alloc _ (.cells #[.bool t, .slice D m d, .int .i64 y] 24) _ (by simp)).trans (heap_alloc_new w (.cells #[.bool s, .slice A n c, .int .i64 x] 24))
  have P1 : Hid (Dbox ((w.alloc (.cells #[.bool s, .slice A n c, .int .i64 x] 24)).alloc (.cells #[.bool t, .slice D m d, .int .i64 y] 24)) (w.heap.size + 1) t (.slice D m d) y) := heap_alloc2_new w (.cells #[.bool s, .slice A n c, .int .i64 x] 24) (.cells #[.bool t, .slice D m d, .int .i64 y] 24)
  obtain ⟨W0, hW0⟩ : ∃ W, W = (w.alloc (.cells #[.bool s, .slice A n c, .int .i64 x] 24)).alloc (.cells #[.bool t, .slice D m d, .int .i64 y] 24) := ⟨_, rfl⟩
  have hs0 : W0.heap.size = w.heap.size + 1 + 1 := by rw [hW0]; simp
  have HW0 := hid hW0
  rw [← hW0] at K P0 P1
  clear hW0
  have P6 : Hid (Dbox (W0.alloc (.cells #[.bool false, .slice none 0 0, .int .i64 0] 24)) W0.heap.size false (.slice none 0 0) 0) := hid (heap_alloc_new W0 _)
  obtain ⟨W, hW⟩ : ∃ W, W = W0.alloc (.cells #[.bool false, .slice none 0 0, .int .i64 0] 24) := ⟨_, rfl⟩
  replace P0 := hid (show Dbox W w.heap.size s (.slice A n c) x from hW ▸ P0.out.alloc _)
  replace P1 := hid (show Dbox W (w.heap.size + 1) t (.slice D m d) y from hW ▸ P1.out.alloc _)
  have HW := hid hW
  rw [← hW] at K P6
  clear hW
  rw [hs0] at P6
  clear hs0
  have CA := hid CAs
  have Hra := hid ra
  have Hrb := hid rb
  have Hda := hid da
  have Hdb := hid db
  have Hma := hid ma
  have Hmb := hid mb
  clear CAs ra rb da db ma mb
  have a0 := P0.out.c0
  have a1 := P0.out.c1
  have a2 := P0.out.c2
  have b0 := P1.out.c0
  have b1 := P1.out.c1
  have b2 := P1.out.c2
  obtain ⟨RR, hRR⟩ : ∃ RR, RR = (2 * M + N) / (2 * N) * (tp 4000 : Int) := ⟨_, rfl⟩
  rw [← hRR]
  have HRR := hid hRR
  clear hRR
  go_enter Tryd.func11, Tryd.ntmps11
  go_upto_region 1 with fail
  rw [← HW0.out, ← HW.out]
  go_wp2_with fail
  refine (CA.out _ K.out).mono ?_
  rintro e w1 ⟨er0, rfl, HE0, hb⟩
  have K1 := hid (K.out.trans (hb.out.mono K.out.size))
  replace P0 := hid (P0.out.below hb.out P0.out.lt)
  replace P1 := hid (P1.out.below hb.out P1.out.lt)
  replace P6 := hid (P6.out.below hb.out P6.out.lt)
  clear a0 a1 a2 b0 b1 b2 hb CA HW HW0 K
  by_cases he0 : er0 = 0
  case neg =>
    have HX := hid (show Qer p q N 0 RR er0 from by
      obtain ⟨h1, h2, h3⟩ := HE0.out
      refine ⟨h1, h2, fun hpq hk => absurd (h3 hpq hk) he0⟩)
    have q0 := P6.out.frozen 0
    have q1 := P6.out.frozen 1
    have q2 := P6.out.frozen 2
    have r0 := P6.out.c0
    have r1 := P6.out.c1
    have r2 := P6.out.c2
    have hez : (er0 != 0) = true := by simp [he0]
    have HNE := hid he0
    clear he0 HE0
    go_wp2_with fail
    refine ret_dyad rfl rfl rfl rfl (P6.out.store (t := false) (u := .slice none 0 0) (y := 0)) ?_
    exact ⟨_, er0, rfl, HX.out, (by rw [resD_bad HNE.out]; exact Dv.zero _), below_put3 K1.out (by omega)⟩
  subst he0
  obtain ⟨hpq, hN0⟩ : (p ∧ q) ∧ 0 < N := by
    obtain ⟨h1, h2, h3⟩ := HE0.out
    by_cases hpq : p ∧ q
    · refine ⟨hpq, ?_⟩
      by_cases h : 0 < N
      · exact h
      · exact absurd (h2 hpq (fun hh => h hh.1)) (by decide)
    · exact absurd (h1 hpq) (by decide)
  obtain ⟨X, rfl, hM⟩ := Hma.out hpq.1
  obtain ⟨Y, rfl, hN⟩ := Hmb.out hpq.2
  have pa := Hda.out.1 hpq.1
  have pb := Hdb.out.1 hpq.2
  obtain ⟨rfl, hm⟩ := (dv_pos pb.1).1 (hN ▸ hN0)
  have hX1 : X ≤ 1024 := by have := pa.2.2.1; omega
  have hY1 : Y ≤ 1024 := by have := pb.2.2.1; omega
  have CP := hid (fun X' (hb : Below w.heap.size w X') => part_any (s := s) (t := false) (up := false) (k := 1) ((Hra.out.below hb).mono hb.size) ((Hrb.out.below hb).mono hb.size) pa.1 pb.1 hX1 hY1 (by omega) hm)
  have HV := hid (show (num s (dq_ s false (vl f n * tw (Y + 1)) (vl h m * tw X)) + 1) / 2 * (tp 4000 : Int) = RR by
    rw [floor_parts hX1 hY1 (by have := (vl_zero_iff pb.1).1; omega) hM hN, near_down hN0, HRR.out])
  have HEr := hid (fun er (he : Derr RR er) => show Qer p q N 0 RR er from ⟨fun hn => absurd hpq hn, fun _ hn => absurd ⟨hN0, by omega, by omega⟩ hn, fun _ _ => he⟩)
  generalize num s (dq_ s false (vl f n * tw (Y + 1)) (vl h m * tw X)) = QQ at CP HV
  clear hpq hN0 hM hN pa pb hm hX1 hY1 HE0 Hda Hdb Hma Hmb HRR
  have a0 := P0.out.c0
  have a1 := P0.out.c1
  have a2 := P0.out.c2
  have b0 := P1.out.c0
  have b1 := P1.out.c1
  have b2 := P1.out.c2
  go_wp2_with fail
  refine (CP.out _ K1.out).mono ?_
  rintro e w2 ⟨sv, rfl, hsv, hb⟩
  have K2 := hid (K1.out.trans (hb.out.mono K1.out.size))
  replace P6 := hid (P6.out.below hb.out P6.out.lt)
  clear a0 a1 a2 b0 b1 b2 P0 P1 hb CP
  obtain ⟨s1, A1, n1, c1, N1, rfl, hb1, hN1, hM1⟩ := hsv.out
  -- the sum with one
  obtain ⟨W3, hW3⟩ : ∃ X, X = w2.alloc (.cells #[.bool s1, .slice A1 n1 c1] 45) := ⟨_, rfl⟩
  have b3 : Below w2.heap.size w2 W3 := hW3 ▸ (Below.refl _ w2).alloc (Nat.le_refl _) _
  have PS := hid (show Sbox W3 w2.heap.size s1 (.slice A1 n1 c1) from hW3 ▸ heap_alloc_new w2 _)
  have K3 := hid (K2.out.trans (b3.mono K2.out.size))
  replace P6 := hid (P6.out.below b3 P6.out.lt)
  have HS1 := hid (show Sg W3 2600 QQ (.agg #[.bool s1, .slice A1 n1 c1]) from ⟨s1, A1, n1, c1, N1, rfl, (hb1.below b3).mono b3.size, hN1, hM1⟩)
  have HW3 := hid hW3
  clear hW3 b3 hb1 hN1 hM1 hsv
  go_upto_region 5 with fail
  rw [← HW3.out]
  clear HW3
  have s0 := PS.out.c0
  have s1c := PS.out.c1
  have CPl := hid (eplus_any (w := W3.alloc (.cells #[.int .u8 1] 5)) (L := 2600) (M := QQ) (N := 1) (HS1.out.below ((Below.refl _ W3).alloc (Nat.le_refl _) _)) ⟨false, some ⟨W3.heap.size, 0, none⟩, 1, 1, 1, rfl, ⟨_, 1, 1, rfl, one_bits (heap_alloc_new W3 _), fun _ => by decide⟩, Nat.lt_of_lt_of_le (show 1 < tw 1 by decide) (tw_mono (by omega)), rfl⟩ (by omega))
  go_wp2_with fail
  refine CPl.out.mono ?_
  rintro e w4 ⟨r, rfl, hr, hb⟩
  have K4 := hid (K3.out.trans ((((Below.refl W3.heap.size W3).alloc (Nat.le_refl _) (.cells #[.int .u8 1] 5)).trans (hb.out.mono (by simp))).mono K3.out.size))
  replace P6 := hid (P6.out.below (((Below.refl W3.heap.size W3).alloc (Nat.le_refl _) (.cells #[.int .u8 1] 5)).trans (hb.out.mono (by simp))) P6.out.lt)
  clear s0 s1c CPl hb PS HS1 K3 K2
  obtain ⟨s2, A2, n2, c2, N2, rfl, hb2, hN2, hM2⟩ := hr.out
  obtain ⟨W5, hW5⟩ : ∃ X, X = w4.alloc (.cells #[.bool s2, .slice A2 n2 c2] 45) := ⟨_, rfl⟩
  have b5 : Below w4.heap.size w4 W5 := hW5 ▸ (Below.refl _ w4).alloc (Nat.le_refl _) _
  have PS2 := hid (show Sbox W5 w4.heap.size s2 (.slice A2 n2 c2) from hW5 ▸ heap_alloc_new w4 _)
  have K5 := hid (K4.out.trans (b5.mono K4.out.size))
  replace P6 := hid (P6.out.below b5 P6.out.lt)
  have HB2 := hid ((Bt.short ((hb2.below b5).mono b5.size) hN2).1)
  have HN2 := hid hN2
  have HM2 := hid hM2
  have HW5 := hid hW5
  clear hW5 b5 hb2 hN2 hM2 hr K4
  go_upto_region 6 with fail
  rw [← HW5.out]
  clear HW5
  have t0 := PS2.out.c0
  have t1 := PS2.out.c1
  have CC := hid (rcut_any HB2.out)
  go_wp2_with fail
  refine CC.out.mono ?_
  rintro e w6 ⟨v, rfl, rfl, hbt⟩
  have hbt0 := hbt
  obtain ⟨A3, n3, c3, rfl, _, h3c, h3m, h30⟩ := bt_dims hbt
  have HBt := hid hbt0
  have H30 := hid h30
  clear hbt hbt0 CC h30 t0 t1 HB2
  by_cases hn3 : n3 = 0
  · have hz3 : ((n3 : Int) == 0) = true := by simp [hn3]
    have HZ := hid (show RR = 0 by
      have h1 := HM2.out
      rw [H30.out.1 hn3, num_zero] at h1
      have h2 := HV.out
      rw [← h1] at h2
      rw [← h2]
      simp)
    clear hn3
    have q0 := P6.out.frozen 0
    have q1 := P6.out.frozen 1
    have q2 := P6.out.frozen 2
    have r0 := P6.out.c0
    have r1 := P6.out.c1
    have r2 := P6.out.c2
    go_wp2_with fail
    refine ret_dyad rfl rfl rfl rfl (P6.out.store (t := false) (u := .slice none 0 0) (y := 0)) ?_
    exact ⟨_, 0, rfl, HEr.out _ (.inl ⟨by rw [HZ.out]; exact okay_zero, rfl⟩), (by rw [resD_ok rfl, HZ.out]; exact Dv.zero _), below_put3 K5.out (by omega)⟩
  have hz3 : ((n3 : Int) == 0) = false := by simp [hn3]
  have Hn3 := hid (show 0 < n3 by omega)
  clear hn3
  have CO := hid (over2_one HBt.out HN2.out (by omega) Hn3.out)
  go_wp2_with fail
  refine CO.out.mono ?_
  rintro e w7 ⟨v7, rfl, hb7, hh7⟩
  have B7 := hid hb7
  obtain ⟨A7, n7, c7, rfl, hbq, hlq⟩ := hh7
  have HF := hid (show Bt w7 w7.heap.size (N2 / 2) (.slice A7 n7 c7) from ⟨A7, n7, c7, rfl, hbq, hlq⟩)
  have hc7 := hbq.cap
  have hm7 := (Bt.dims HF.out).2.1
  clear hb7 hbq hlq CO
  have HHN := hid (show N2 / 2 < tw 2601 from Nat.lt_of_le_of_lt (Nat.div_le_self _ _) HN2.out)
  have hst := half_down s2 N2
  cases s2 with
  | false =>
    have HVx := hid (show num false (N2 / 2) * (tp 4000 : Int) = RR by
      rw [← HV.out, ← HM2.out, ← hst, if_neg (by simp), Nat.add_zero])
    clear hst
    have t0 := (PS2.out.below B7.out PS2.out.lt).c0
    have PSx := hid (PS2.out.below B7.out PS2.out.lt)
    have P6x0 := hid (P6.out.below B7.out P6.out.lt)
    have t0 := PSx.out.c0
    have t1 := PSx.out.c1
    have CFm0 := eform_any (K := 0) (L := 2700) (M := num false (N2 / 2)) (v := .agg #[.bool false, .slice A7 n7 c7]) ⟨false, A7, n7, c7, N2 / 2, rfl, HF.out, Nat.lt_of_lt_of_le HHN.out (tw_mono (by omega)), rfl⟩ (by omega) (by omega)
    rw [Nat.sub_zero, HVx.out] at CFm0
    have CFm := hid CFm0
    clear CFm0
    go_wp2_with fail
    refine CFm.out.mono ?_
    rintro e w9 ⟨dd, er, rfl, HE, HD, hb⟩
    have K9 := hid (K5.out.trans ((B7.out.trans (hb.out.mono B7.out.size)).mono K5.out.size))
    have P6y := hid (P6x0.out.below hb.out P6x0.out.lt)
    clear hb CFm t0 t1
    obtain ⟨sd, Ad, nd, cd, xd, rfl⟩ := HD.out.parts
    have PX : Hid (Dbox (w9.alloc (.cells #[.bool sd, .slice Ad nd cd, .int .i64 xd] 24)) w9.heap.size sd (.slice Ad nd cd) xd) := hid (heap_alloc_new _ _)
    have DD : Hid (Dv (w9.alloc (.cells #[.bool sd, .slice Ad nd cd, .int .i64 xd] 24)) (resD er RR) (.agg #[.bool sd, .slice Ad nd cd, .int .i64 xd])) := hid (HD.out.alloc _)
    have Kz := hid (K9.out.alloc K9.out.size (.cells #[.bool sd, .slice Ad nd cd, .int .i64 xd] 24))
    have P6x := hid (P6y.out.alloc (.cells #[.bool sd, .slice Ad nd cd, .int .i64 xd] 24))
    have p0 := PX.out.c0
    have p1 := PX.out.c1
    have p2 := PX.out.c2
    have q0 := P6x.out.frozen 0
    have q1 := P6x.out.frozen 1
    have q2 := P6x.out.frozen 2
    have r0 := P6x.out.c0
    have r1 := P6x.out.c1
    have r2 := P6x.out.c2
    go_wp2
    refine ret_dyad rfl rfl rfl rfl (P6x.out.store (t := sd) (u := .slice Ad nd cd) (y := xd)) ?_
    exact ⟨_, er, rfl, HEr.out _ HE.out, DD.out.store P6x.out, below_put3 Kz.out (by omega)⟩
  | true =>
    obtain ⟨b3, off3, hA3, hc3⟩ := Bt.cell0 (HBt.out.below B7.out) Hn3.out
    subst hA3
    have hbit : bt N2 0 = N2 % 2 := by unfold bt; rw [tw_zero, Nat.div_one]
    rw [hbit] at hc3
    have hi3 : (0 : Int) < (n3 : Int) := by have := Hn3.out; omega
    have t0 := (PS2.out.below B7.out PS2.out.lt).c0
    by_cases hodd : N2 % 2 = 1
    · rw [hodd] at hc3
      have HVx := hid (show num true (N2 / 2 + 1) * (tp 4000 : Int) = RR by
        rw [← HV.out, ← HM2.out, ← hst, if_pos ⟨rfl, hodd⟩])
      clear hst hodd hbit
      have CP2 := hid (Plus_bits (w := w7.alloc (.cells #[.int .u8 1] 5)) ((Bt.short HF.out HHN.out).1.below ((Below.refl _ w7).alloc (Nat.le_refl _) _)) (one_bits (heap_alloc_new w7 _)) (by simp) (Nat.le_refl _) (by have := (Bt.short HF.out HHN.out).2; omega) (by omega))
      go_wp2_with fail
      refine CP2.out.mono ?_
      rintro e w8 ⟨v8, rfl, hb8, hh8⟩
      have B8 := hid (B7.out.trans ((((Below.refl w7.heap.size w7).alloc (Nat.le_refl _) (.cells #[.int .u8 1] 5)).trans (hb8.mono (by simp))).mono B7.out.size))
      clear HF CP2 hb8 t0 hc3
      obtain ⟨A8, n8, c8, rfl, hbv, hlv⟩ := hh8
      have HF := hid (show Bt w8 w8.heap.size (N2 / 2 + 1) (.slice A8 n8 c8) from ⟨A8, n8, c8, rfl, hbv, hlv⟩)
      clear hbv hlv
      have PSx := hid (PS2.out.below B8.out PS2.out.lt)
      have P6x0 := hid (P6.out.below B8.out P6.out.lt)
      have t0 := PSx.out.c0
      have t1 := PSx.out.c1
      have CFm0 := eform_any (K := 0) (L := 2700) (M := num true (N2 / 2 + 1)) (v := .agg #[.bool true, .slice A8 n8 c8]) ⟨true, A8, n8, c8, N2 / 2 + 1, rfl, HF.out, (by have h1 := HHN.out; have h2 := tw_mono (show 2602 ≤ 2700 by omega); have h3 : tw 2602 = tw 2601 * 2 := tw_succ 2601; have h4 := tw_pos 2601; omega), rfl⟩ (by omega) (by omega)
      rw [Nat.sub_zero, HVx.out] at CFm0
      have CFm := hid CFm0
      clear CFm0
      go_wp2_with fail
      refine CFm.out.mono ?_
      rintro e w9 ⟨dd, er, rfl, HE, HD, hb⟩
      have K9 := hid (K5.out.trans ((B8.out.trans (hb.out.mono B8.out.size)).mono K5.out.size))
      have P6y := hid (P6x0.out.below hb.out P6x0.out.lt)
      clear hb CFm t0 t1
      obtain ⟨sd, Ad, nd, cd, xd, rfl⟩ := HD.out.parts
      have PX : Hid (Dbox (w9.alloc (.cells #[.bool sd, .slice Ad nd cd, .int .i64 xd] 24)) w9.heap.size sd (.slice Ad nd cd) xd) := hid (heap_alloc_new _ _)
      have DD : Hid (Dv (w9.alloc (.cells #[.bool sd, .slice Ad nd cd, .int .i64 xd] 24)) (resD er RR) (.agg #[.bool sd, .slice Ad nd cd, .int .i64 xd])) := hid (HD.out.alloc _)
      have Kz := hid (K9.out.alloc K9.out.size (.cells #[.bool sd, .slice Ad nd cd, .int .i64 xd] 24))
      have P6x := hid (P6y.out.alloc (.cells #[.bool sd, .slice Ad nd cd, .int .i64 xd] 24))
      have p0 := PX.out.c0
      have p1 := PX.out.c1
      have p2 := PX.out.c2
      have q0 := P6x.out.frozen 0
      have q1 := P6x.out.frozen 1
      have q2 := P6x.out.frozen 2
      have r0 := P6x.out.c0
      have r1 := P6x.out.c1
      have r2 := P6x.out.c2
      go_wp2
      refine ret_dyad rfl rfl rfl rfl (P6x.out.store (t := sd) (u := .slice Ad nd cd) (y := xd)) ?_
      exact ⟨_, er, rfl, HEr.out _ HE.out, DD.out.store P6x.out, below_put3 Kz.out (by omega)⟩
    · have he0 : N2 % 2 = 0 := by omega
      rw [he0] at hc3
      have HVx := hid (show num true (N2 / 2) * (tp 4000 : Int) = RR by
        rw [← HV.out, ← HM2.out, ← hst, if_neg (fun hh => hodd hh.2), Nat.add_zero])
      clear hst hodd hbit he0
      have PSx := hid (PS2.out.below B7.out PS2.out.lt)
      have P6x0 := hid (P6.out.below B7.out P6.out.lt)
      have t0 := PSx.out.c0
      have t1 := PSx.out.c1
      have CFm0 := eform_any (K := 0) (L := 2700) (M := num true (N2 / 2)) (v := .agg #[.bool true, .slice A7 n7 c7]) ⟨true, A7, n7, c7, N2 / 2, rfl, HF.out, Nat.lt_of_lt_of_le HHN.out (tw_mono (by omega)), rfl⟩ (by omega) (by omega)
      rw [Nat.sub_zero, HVx.out] at CFm0
      have CFm := hid CFm0
      clear CFm0
      go_wp2_with fail
      refine CFm.out.mono ?_
      rintro e w9 ⟨dd, er, rfl, HE, HD, hb⟩
      have K9 := hid (K5.out.trans ((B7.out.trans (hb.out.mono B7.out.size)).mono K5.out.size))
      have P6y := hid (P6x0.out.below hb.out P6x0.out.lt)
      clear hb CFm t0 t1
      obtain ⟨sd, Ad, nd, cd, xd, rfl⟩ := HD.out.parts
      have PX : Hid (Dbox (w9.alloc (.cells #[.bool sd, .slice Ad nd cd, .int .i64 xd] 24)) w9.heap.size sd (.slice Ad nd cd) xd) := hid (heap_alloc_new _ _)
      have DD : Hid (Dv (w9.alloc (.cells #[.bool sd, .slice Ad nd cd, .int .i64 xd] 24)) (resD er RR) (.agg #[.bool sd, .slice Ad nd cd, .int .i64 xd])) := hid (HD.out.alloc _)
      have Kz := hid (K9.out.alloc K9.out.size (.cells #[.bool sd, .slice Ad nd cd, .int .i64 xd] 24))
      have P6x := hid (P6y.out.alloc (.cells #[.bool sd, .slice Ad nd cd, .int .i64 xd] 24))
      have p0 := PX.out.c0
      have p1 := PX.out.c1
      have p2 := PX.out.c2
      have q0 := P6x.out.frozen 0
      have q1 := P6x.out.frozen 1
      have q2 := P6x.out.frozen 2
      have r0 := P6x.out.c0
      have r1 := P6x.out.c1
      have r2 := P6x.out.c2
      go_wp2
      refine ret_dyad rfl rfl rfl rfl (P6x.out.store (t := sd) (u := .slice Ad nd cd) (y := xd)) ?_
      exact ⟨_, er, rfl, HEr.out _ HE.out, DD.out.store P6x.out, below_put3 Kz.out (by omega)⟩
end Go.Proofs.YtnhnddhigbbleaaDoor
