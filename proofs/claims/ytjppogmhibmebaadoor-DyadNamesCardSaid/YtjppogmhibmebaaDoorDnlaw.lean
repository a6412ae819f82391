/- DyadNames's walk. -/
import Derived.Test.YtjppogmhibmebaaDoorDcom
import Derived.Test.YtjppogmhibmebaaDoorDcmpa
import Derived.Deep.RegionHeld3
import Derived.Test.YtjppogmhibmebaaDoorDnm
namespace Go.Proofs.YtjppogmhibmebaaDoor
open Go.RowKit

set_option maxHeartbeats 12800000 in
set_option maxRecDepth 1000000 in
theorem names_walk {w : World} (hT : Tab w) :
    Calls Tryd.prog 3 #[] w fun e w' => e = .returned (.bool true) ∧ Below w.heap.size w w' := by
  have HT := hid hT
  have K := hid (Below.refl w.heap.size w)
  clear hT
  go_enter Tryd.func3, Tryd.ntmps3
  go_wp2_with fail
  refine (part_any true 1 1024 (by omega) (by omega) (fun _ => rfl) (by omega) _).mono ?_
  rintro e w1 ⟨sl, Al, nl, cl, xl, rfl, HD, HB⟩
  have J0 := hid ((Below.refl w1.heap.size w1).alloc (Nat.le_refl _) (.cells #[.bool sl, .slice Al nl cl, .int .i64 xl] 24))
  have J := hid (HB.out.trans (J0.out.mono HB.out.size))
  replace K := hid (K.out.trans (J.out.mono K.out.size))
  have Pl : Hid (Dbox (w1.alloc (.cells #[.bool sl, .slice Al nl cl, .int .i64 xl] 24)) w1.heap.size sl (.slice Al nl cl) xl) := heap_alloc_new _ _
  have Dl := hid (HD.out.below J0.out)
  clear HD HB J0 J
  have cl0 := Pl.out.c0
  have cl1 := Pl.out.c1
  have cl2 := Pl.out.c2
  go_wp2_with fail
  refine (dhalf_any Dl.out (HT.out.below K.out HT.out.lt)).mono ?_
  rintro e w2 ⟨H, hH, d, er, rfl, HE, HD, HB⟩
  obtain rfl : er = 10 := (HE.out.1 trivial).uniq (.inr ⟨half_over rfl rfl (hH trivial), rfl⟩)
  obtain ⟨sh, Ah, nh, ch, xh, rfl⟩ := HD.out.parts
  clear cl0 cl1 cl2
  have J0 := hid ((Below.refl w2.heap.size w2).alloc (Nat.le_refl _) (.cells #[.bool sh, .slice Ah nh ch, .int .i64 xh] 24))
  have J := hid (HB.out.trans (J0.out.mono HB.out.size))
  replace Pl := hid (Pl.out.below J.out Pl.out.lt)
  replace Dl := hid (Dl.out.below J.out)
  replace K := hid (K.out.trans (J.out.mono K.out.size))
  have Ph : Hid (Dbox (w2.alloc (.cells #[.bool sh, .slice Ah nh ch, .int .i64 xh] 24)) w2.heap.size sh (.slice Ah nh ch) xh) := heap_alloc_new _ _
  clear HD HB J0 J HE hH
  go_upto_region 3 with fail
  obtain ⟨W, hW⟩ : ∃ W, W = w2.alloc (.cells #[.bool sh, .slice Ah nh ch, .int .i64 xh] 24) := ⟨_, rfl⟩
  rw [← hW] at Pl Dl Ph K ⊢
  clear hW Ph
  have hmk : ∀ w, (Instr.makeSlice 22 (.int .i64 40) (.int .i64 40)).run Tryd.prog w = .ok (.slice (some ⟨w.heap.size, 0, none⟩) 40 40) (w.alloc (.cells (madeCells #[.int .u32 0] 40) 26)) := fun w => make_u32 40 (by omega) w
  go_wp2_with fail
  go_loopw [5] (fun i wr => ∃ k : Nat, k ≤ 40 ∧ i = .int .i64 k ∧ Hid (Blk wr 26 W.heap.size 40 (fun j => if j < k then 4294967295 else 0)) ∧ Hid (Dbox wr (W.heap.size + 1) false (.slice (some ⟨W.heap.size, 0, none⟩) 40 40) 0) ∧ Hid (Below W.heap.size W wr)) (fun i _ => 40 - (intOf i).toNat)
  case atStart => exact ⟨0, by omega, rfl, hid (((Blk.zeros W 26 40).alloc _).congr (fun j _ => (if_neg (by omega)).symm)), heap_alloc2_new W _ _, hid (((Below.refl _ _).alloc (Nat.le_refl _) _).alloc (by simp) _)⟩
  case round =>
    obtain ⟨k, hk, rfl, hblk, hbox, hbel⟩ := hrel
    have t0 := hbox.out.c0
    have t1 := hbox.out.c1
    have t2 := hbox.out.c2
    by_cases hk40 : k < 40
    · have q1 := hblk.out.cell hk40
      have q2 := hblk.out.frozen k
      have hb2 := hid (hblk.out.set k 4294967295)
      have hx2 := hid (hbox.out.far (k := W.heap.size) (by omega) k (.int .u32 4294967295))
      have hl2 := hid (hbel.out.setCell (p := ⟨W.heap.size, k, none⟩) (Nat.le_refl _) (.int .u32 4294967295))
      clear hblk hbox hbel
      go_wp2_with fail
      go_roundw
      case rel =>
        refine ⟨k + 1, by omega, by go_num, hid (hb2.out.congr fun j _ => ?_), hx2, hl2⟩
        show (if j = k then 4294967295 else if j < k then 4294967295 else 0) = _
        by_cases h1 : j = k
        · rw [if_pos h1, if_pos (by omega)]
        · rw [if_neg h1]
          by_cases h2 : j < k
          · rw [if_pos h2, if_pos (by omega)]
          · rw [if_neg h2, if_neg (by omega)]
      case measure => simp [intOf]; omega
    · obtain rfl : k = 40 := by omega
      have Dt := hid (top_arg (hblk.out.rd (B := wr.heap.size) hblk.out.lt (by omega) (fun j => by show (if j < 40 then 4294967295 else 0) < _; split <;> omega) (fun j hj => if_neg (by omega))) (fun j hj => if_pos hj))
      have Pt := hbox
      replace Pl := hid (Pl.out.below hbel.out Pl.out.lt)
      replace Dl := hid (Dl.out.below hbel.out)
      replace K := hid (K.out.trans (hbel.out.mono K.out.size))
      clear hblk hbox hbel hk40 hk hmk t0 t1 t2
      have ct0 := Pt.out.c0
      have ct1 := Pt.out.c1
      have ct2 := Pt.out.c2
      go_upto_region 8 with fail
      go_cut [6, 7] (fun s6 s7 wx => ∃ g6 : Nat, s6 = .pointer (some ⟨g6, 0, none⟩) ∧ s7 = .int .i64 10 ∧ Hid (Below wr.heap.size wr wx))
      case first =>
        clear ct0 ct1 ct2
        have CF : Hid (∀ w', Below wr.heap.size wr w' → w'.cell? ⟨W.heap.size + 1, 0, none⟩ = some (.bool false) ∧ w'.cell? ⟨W.heap.size + 1, 1, none⟩ = some (.slice (some ⟨W.heap.size, 0, none⟩) 40 40) ∧ w'.cell? ⟨W.heap.size + 1, 2, none⟩ = some (.int .i64 0)) :=
          fun w' hb => ⟨(Pt.out.below hb Pt.out.lt).c0, (Pt.out.below hb Pt.out.lt).c1, (Pt.out.below hb Pt.out.lt).c2⟩
        have CO := hid (fun (w' : World) (_hb : Below wr.heap.size wr w') => of_one 1 (by omega) w')
        have CA := hid (fun (w' : World) (v : Value) (hb : Below wr.heap.size wr w') (hv : DArg w' True (dv false 1 0) v) => dadd_any (Dt.out.below hb) hv (HT.out.below (K.out.trans (hb.mono K.out.size)) HT.out.lt))
        have HBz := hid ((Below.refl wr.heap.size wr).drew)
        go_region_held3 (fun w' => w'.cell? ⟨W.heap.size + 1, 0, none⟩ = some (.bool false) ∧ w'.cell? ⟨W.heap.size + 1, 1, none⟩ = some (.slice (some ⟨W.heap.size, 0, none⟩) 40 40) ∧ w'.cell? ⟨W.heap.size + 1, 2, none⟩ = some (.int .i64 0))
          (first | exact CF.out _ HBz.out | exact CF.out _ (HBz.out.alloc HBz.out.size _) | exact CF.out _ (below_put3 HBz.out Hgl.out))
          (first
          | (go_at_call 13
             first
               | refine (CO.out _ HBz.out).mono ?_
               | refine (CO.out _ (HBz.out.alloc HBz.out.size _)).mono ?_
             rintro e wx ⟨so, Ao, no, co, xo, rfl, DO, Ba⟩
             first
               | (obtain ⟨gx, hgx, Px0⟩ := box_of Ba.out
                  have Px := hid Px0
                  have Hgl := hid (show wr.heap.size ≤ gx by rw [hgx]; exact HBz.out.size)
                  first
                    | rw [← hgx]
                    | (rw [show wr.drew.heap.size = wr.heap.size from rfl] at hgx
                       rw [← hgx])
                  clear hgx Px0)
               | (have Px := hid (Px.out.below Ba.out Px.out.lt))
               | skip
             have HBz := hid (by first | exact HBz.out.trans (Ba.out.mono HBz.out.size) | exact (HBz.out.alloc HBz.out.size _).trans (Ba.out.mono (HBz.out.alloc HBz.out.size _).size)))
          | (go_at_call 12
             first
               | refine (CA.out _ _ HBz.out DO.out).mono ?_
               | refine (CA.out _ _ (HBz.out.alloc HBz.out.size _) (DO.out.below ((Below.refl _ _).alloc (Nat.le_refl _) _))).mono ?_
             rintro e wx ⟨d, er, rfl, HE, HD, Ba⟩
             first
               | (obtain ⟨gx, hgx, Px0⟩ := box_of Ba.out
                  have Px := hid Px0
                  have Hgl := hid (show wr.heap.size ≤ gx by rw [hgx]; exact HBz.out.size)
                  first
                    | rw [← hgx]
                    | (rw [show wr.drew.heap.size = wr.heap.size from rfl] at hgx
                       rw [← hgx])
                  clear hgx Px0)
               | (have Px := hid (Px.out.below Ba.out Px.out.lt))
               | skip
             have HBz := hid (by first | exact HBz.out.trans (Ba.out.mono HBz.out.size) | exact (HBz.out.alloc HBz.out.size _).trans (Ba.out.mono (HBz.out.alloc HBz.out.size _).size))
             obtain ⟨sx, Ax, nx, cx, xx, rfl⟩ := HD.out.parts
             obtain rfl : er = 10 := (HE.out.1 ⟨trivial, trivial⟩).uniq (.inr ⟨over_one, rfl⟩)
             first
               | (have z0 := Px.out.c0
                  have z1 := Px.out.c1
                  have z2 := Px.out.c2
                  have y0 := Px.out.frozen 0
                  have y1 := Px.out.frozen 1
                  have y2 := Px.out.frozen 2)
               | skip))
        all_goals
          go_wp2_with fail
          go_meet
          first
            | exact ⟨_, rfl, rfl, hid (below_put3 HBz.out Hgl.out)⟩
            | exact ⟨_, rfl, rfl, hid (HBz.out.alloc HBz.out.size _)⟩
      case rest =>
        obtain ⟨g6, rfl, rfl, J⟩ := hcut
        clear ct0 ct1 ct2
        replace Pl := hid (Pl.out.below J.out Pl.out.lt)
        replace Pt := hid (Pt.out.below J.out Pt.out.lt)
        replace Dl := hid (Dl.out.below J.out)
        replace Dt := hid (Dt.out.below J.out)
        replace K := hid (K.out.trans (J.out.mono K.out.size))
        clear J
        have ct0 := Pt.out.c0
        have ct1 := Pt.out.c1
        have ct2 := Pt.out.c2
        have cl0 := Pl.out.c0
        have cl1 := Pl.out.c1
        have cl2 := Pl.out.c2
        go_wp2_with fail
        refine (dadd_any Dt.out Dl.out (HT.out.below K.out HT.out.lt)).mono ?_
        rintro e w3 ⟨d, er, rfl, HE, HD, HB⟩
        obtain rfl : er = 10 := (HE.out.1 ⟨trivial, trivial⟩).uniq (.inr ⟨over_less, rfl⟩)
        obtain ⟨sx, Ax, nx, cx, xx, rfl⟩ := HD.out.parts
        clear ct0 ct1 ct2 cl0 cl1 cl2
        have J0 := hid ((Below.refl w3.heap.size w3).alloc (Nat.le_refl _) (.cells #[.bool sx, .slice Ax nx cx, .int .i64 xx] 24))
        have J := hid (HB.out.trans (J0.out.mono HB.out.size))
        replace Pl := hid (Pl.out.below J.out Pl.out.lt)
        replace Pt := hid (Pt.out.below J.out Pt.out.lt)
        replace Dl := hid (Dl.out.below J.out)
        replace Dt := hid (Dt.out.below J.out)
        replace K := hid (K.out.trans (J.out.mono K.out.size))
        have Px : Hid (Dbox (w3.alloc (.cells #[.bool sx, .slice Ax nx cx, .int .i64 xx] 24)) w3.heap.size sx (.slice Ax nx cx) xx) := heap_alloc_new _ _
        clear HD HB J0 J HE Px
        have ct0 := Pt.out.c0
        have ct1 := Pt.out.c1
        have ct2 := Pt.out.c2
        go_wp2_with fail
        refine (dsub_any Dt.out Dt.out (HT.out.below K.out HT.out.lt)).mono ?_
        rintro e w4 ⟨d, er, rfl, HE, HD, HB⟩
        rw [Int.sub_self] at HE HD
        obtain rfl : er = 0 := (HE.out.1 ⟨trivial, trivial⟩).uniq (.inl ⟨okay_zero, rfl⟩)
        obtain ⟨sz, Az, nz, cz, xz, rfl⟩ := HD.out.parts
        clear ct0 ct1 ct2
        have J0 := hid ((Below.refl w4.heap.size w4).alloc (Nat.le_refl _) (.cells #[.bool sz, .slice Az nz cz, .int .i64 xz] 24))
        have J := hid (HB.out.trans (J0.out.mono HB.out.size))
        replace Pl := hid (Pl.out.below J.out Pl.out.lt)
        replace Pt := hid (Pt.out.below J.out Pt.out.lt)
        replace Dl := hid (Dl.out.below J.out)
        replace Dt := hid (Dt.out.below J.out)
        replace K := hid (K.out.trans (J.out.mono K.out.size))
        have Pz : Hid (Dbox (w4.alloc (.cells #[.bool sz, .slice Az nz cz, .int .i64 xz] 24)) w4.heap.size sz (.slice Az nz cz) xz) := heap_alloc_new _ _
        have Dz := hid (HD.out.arg.below J0.out)
        clear HD HB J0 J HE
        have ct0 := Pt.out.c0
        have ct1 := Pt.out.c1
        have ct2 := Pt.out.c2
        have cl0 := Pl.out.c0
        have cl1 := Pl.out.c1
        have cl2 := Pl.out.c2
        go_wp2_with fail
        refine (dcmp_any Dt.out Dl.out).mono ?_
        rintro e w5 ⟨r, er, rfl, HC, J⟩
        obtain ⟨e1, e2⟩ := HC.out.1 ⟨trivial, trivial⟩
        rw [cmp_top] at e2
        subst e1 e2
        clear HC
        clear ct0 ct1 ct2 cl0 cl1 cl2
        replace Pl := hid (Pl.out.below J.out Pl.out.lt)
        replace Pt := hid (Pt.out.below J.out Pt.out.lt)
        replace Pz := hid (Pz.out.below J.out Pz.out.lt)
        replace Dl := hid (Dl.out.below J.out)
        replace Dt := hid (Dt.out.below J.out)
        replace Dz := hid (Dz.out.below J.out)
        replace K := hid (K.out.trans (J.out.mono K.out.size))
        clear J
        go_upto_region 12 with fail
        have CF : Hid (∀ w', Below w5.heap.size w5 w' → w'.cell? ⟨w1.heap.size, 0, none⟩ = some (.bool sl) ∧ w'.cell? ⟨w1.heap.size, 1, none⟩ = some (.slice Al nl cl) ∧ w'.cell? ⟨w1.heap.size, 2, none⟩ = some (.int .i64 xl)) :=
          fun w' hb => ⟨(Pl.out.below hb Pl.out.lt).c0, (Pl.out.below hb Pl.out.lt).c1, (Pl.out.below hb Pl.out.lt).c2⟩
        have HBz := hid ((Below.refl w5.heap.size w5).drew)
        go_region_held3 (fun w' => w'.cell? ⟨w1.heap.size, 0, none⟩ = some (.bool sl) ∧ w'.cell? ⟨w1.heap.size, 1, none⟩ = some (.slice Al nl cl) ∧ w'.cell? ⟨w1.heap.size, 2, none⟩ = some (.int .i64 xl))
          (exact CF.out _ HBz.out)
          (first
          | (go_at_call 13
             refine (of_one 0 (by omega) _).mono ?_
             rintro e wx ⟨so, Ao, no, co, xo, rfl, DO, Ba⟩
             have HBz := hid (HBz.out.trans (Ba.out.mono HBz.out.size)))
          | (go_at_call 15
             refine (dcmp_any (Dl.out.below HBz.out) DO.out).mono ?_
             rintro e wx ⟨r, er, rfl, HC, Ba⟩
             obtain ⟨e1, e2⟩ := HC.out.1 ⟨trivial, trivial⟩
             rw [cmp_last] at e2
             subst e1 e2
             have HBz := hid (HBz.out.trans (Ba.out.mono HBz.out.size))))
        all_goals
          clear CF
          replace Pl := hid (Pl.out.below HBz.out Pl.out.lt)
          replace Pt := hid (Pt.out.below HBz.out Pt.out.lt)
          replace Pz := hid (Pz.out.below HBz.out Pz.out.lt)
          replace Dl := hid (Dl.out.below HBz.out)
          replace Dt := hid (Dt.out.below HBz.out)
          replace Dz := hid (Dz.out.below HBz.out)
          replace K := hid (K.out.trans (HBz.out.mono K.out.size))
          go_wp2_with fail
          refine (dof_any (-9223372036854775808) (by omega) _).mono ?_
          rintro e w7 ⟨s6, v6, V6, rfl, HN, HB⟩
          obtain ⟨A6, n6, c6, rfl⟩ := HN.out.1.shape
          obtain ⟨hs6, hn6⟩ := least_two HN.out
          subst hs6 hn6
          have HD : Hid (DArg w7 True (dv true 9223372036854775808 0) (.agg #[.bool true, .slice A6 2 c6, .int .i64 0])) := hid (least_arg HN.out)
          obtain ⟨s6, hs6⟩ : ∃ s : Bool, s = true := ⟨_, rfl⟩
          obtain ⟨n6, hn6⟩ : ∃ n : Nat, n = 2 := ⟨_, rfl⟩
          obtain ⟨x6, hx6⟩ : ∃ x : Int, x = 0 := ⟨_, rfl⟩
          clear HN
          clear hs6 hn6 hx6
          have J0 := hid ((Below.refl w7.heap.size w7).alloc (Nat.le_refl _) (.cells #[.bool true, .slice A6 2 c6, .int .i64 0] 24))
          have J := hid (HB.out.trans (J0.out.mono HB.out.size))
          replace Pl := hid (Pl.out.below J.out Pl.out.lt)
          replace Pt := hid (Pt.out.below J.out Pt.out.lt)
          replace Pz := hid (Pz.out.below J.out Pz.out.lt)
          replace Dl := hid (Dl.out.below J.out)
          replace Dt := hid (Dt.out.below J.out)
          replace Dz := hid (Dz.out.below J.out)
          replace K := hid (K.out.trans (J.out.mono K.out.size))
          have P6 : Hid (Dbox (w7.alloc (.cells #[.bool true, .slice A6 2 c6, .int .i64 0] 24)) w7.heap.size true (.slice A6 2 c6) 0) := heap_alloc_new _ _
          have D6 := hid (HD.out.below J0.out)
          clear HD HB J0 J
          go_wp2_with fail
          refine (part_raw false 2 1 (by omega) _).mono ?_
          rintro e w8 ⟨Ap, cp, rfl, Rp, J⟩
          replace Pl := hid (Pl.out.below J.out Pl.out.lt)
          replace Pt := hid (Pt.out.below J.out Pt.out.lt)
          replace Pz := hid (Pz.out.below J.out Pz.out.lt)
          replace P6 := hid (P6.out.below J.out P6.out.lt)
          replace Dl := hid (Dl.out.below J.out)
          replace Dt := hid (Dt.out.below J.out)
          replace Dz := hid (Dz.out.below J.out)
          replace D6 := hid (D6.out.below J.out)
          replace K := hid (K.out.trans (J.out.mono K.out.size))
          clear J
          go_wp2_with fail
          refine (dcheck_any Rp.out false 1).mono ?_
          rintro e w9 ⟨rfl, J1⟩
          have J := hid J1
          rw [show dchk false 1 (fun j => if j = 0 then 2 else 0) 1 = 8 from if_neg (fun h => by have := h.2.2.2.2 (by omega); simp at this)]
          clear J1 Rp
          replace Pl := hid (Pl.out.below J.out Pl.out.lt)
          replace Pt := hid (Pt.out.below J.out Pt.out.lt)
          replace Pz := hid (Pz.out.below J.out Pz.out.lt)
          replace P6 := hid (P6.out.below J.out P6.out.lt)
          replace Dl := hid (Dl.out.below J.out)
          replace Dt := hid (Dt.out.below J.out)
          replace Dz := hid (Dz.out.below J.out)
          replace D6 := hid (D6.out.below J.out)
          replace K := hid (K.out.trans (J.out.mono K.out.size))
          clear J
          go_wp2_with fail
          refine (dcheck_any (Rd.nil _ _) true 0).mono ?_
          rintro e w10 ⟨rfl, J1⟩
          have J := hid J1
          rw [show dchk true 0 (fun _ => 0) 0 = 8 from if_neg (fun h => by have := h.2.2.2.1 rfl; cases this)]
          clear J1
          replace Pl := hid (Pl.out.below J.out Pl.out.lt)
          replace Pt := hid (Pt.out.below J.out Pt.out.lt)
          replace Pz := hid (Pz.out.below J.out Pz.out.lt)
          replace P6 := hid (P6.out.below J.out P6.out.lt)
          replace Dl := hid (Dl.out.below J.out)
          replace Dt := hid (Dt.out.below J.out)
          replace Dz := hid (Dz.out.below J.out)
          replace D6 := hid (D6.out.below J.out)
          replace K := hid (K.out.trans (J.out.mono K.out.size))
          clear J
          go_wp2_with fail
          refine (dcheck_any (Rd.nil _ _) false 1).mono ?_
          rintro e w11 ⟨rfl, J1⟩
          have J := hid J1
          rw [show dchk false 0 (fun _ => 0) 1 = 8 from if_neg (fun h => by have := h.2.2.2.2 (by omega); cases this)]
          clear J1
          replace Pl := hid (Pl.out.below J.out Pl.out.lt)
          replace Pt := hid (Pt.out.below J.out Pt.out.lt)
          replace Pz := hid (Pz.out.below J.out Pz.out.lt)
          replace P6 := hid (P6.out.below J.out P6.out.lt)
          replace Dl := hid (Dl.out.below J.out)
          replace Dt := hid (Dt.out.below J.out)
          replace Dz := hid (Dz.out.below J.out)
          replace D6 := hid (D6.out.below J.out)
          replace K := hid (K.out.trans (J.out.mono K.out.size))
          clear J
          go_wp2_with fail
          refine (part_raw false 1 1025 (by omega) _).mono ?_
          rintro e w12 ⟨Ap, cp, rfl, Rp, J⟩
          replace Pl := hid (Pl.out.below J.out Pl.out.lt)
          replace Pt := hid (Pt.out.below J.out Pt.out.lt)
          replace Pz := hid (Pz.out.below J.out Pz.out.lt)
          replace P6 := hid (P6.out.below J.out P6.out.lt)
          replace Dl := hid (Dl.out.below J.out)
          replace Dt := hid (Dt.out.below J.out)
          replace Dz := hid (Dz.out.below J.out)
          replace D6 := hid (D6.out.below J.out)
          replace K := hid (K.out.trans (J.out.mono K.out.size))
          clear J
          go_wp2_with fail
          refine (dcheck_any Rp.out false 1025).mono ?_
          rintro e w13 ⟨rfl, J1⟩
          have J := hid J1
          rw [show dchk false 1 (fun j => if j = 0 then 1 else 0) 1025 = 8 from if_neg (fun h => by have := h.2.2.1; omega)]
          clear J1 Rp
          replace Pl := hid (Pl.out.below J.out Pl.out.lt)
          replace Pt := hid (Pt.out.below J.out Pt.out.lt)
          replace Pz := hid (Pz.out.below J.out Pz.out.lt)
          replace P6 := hid (P6.out.below J.out P6.out.lt)
          replace Dl := hid (Dl.out.below J.out)
          replace Dt := hid (Dt.out.below J.out)
          replace Dz := hid (Dz.out.below J.out)
          replace D6 := hid (D6.out.below J.out)
          replace K := hid (K.out.trans (J.out.mono K.out.size))
          clear J
          go_wp2_with fail
          refine (part_raw false 0 0 (by omega) _).mono ?_
          rintro e w14 ⟨Ap, cp, rfl, Rp, J⟩
          replace Pl := hid (Pl.out.below J.out Pl.out.lt)
          replace Pt := hid (Pt.out.below J.out Pt.out.lt)
          replace Pz := hid (Pz.out.below J.out Pz.out.lt)
          replace P6 := hid (P6.out.below J.out P6.out.lt)
          replace Dl := hid (Dl.out.below J.out)
          replace Dt := hid (Dt.out.below J.out)
          replace Dz := hid (Dz.out.below J.out)
          replace D6 := hid (D6.out.below J.out)
          replace K := hid (K.out.trans (J.out.mono K.out.size))
          clear J
          go_wp2_with fail
          refine (dcheck_any Rp.out false 0).mono ?_
          rintro e w15 ⟨rfl, J1⟩
          have J := hid J1
          rw [show dchk false 1 (fun j => if j = 0 then 0 else 0) 0 = 8 from if_neg (fun h => by have := h.1.2 (by omega); simp at this)]
          clear J1 Rp
          replace Pl := hid (Pl.out.below J.out Pl.out.lt)
          replace Pt := hid (Pt.out.below J.out Pt.out.lt)
          replace Pz := hid (Pz.out.below J.out Pz.out.lt)
          replace P6 := hid (P6.out.below J.out P6.out.lt)
          replace Dl := hid (Dl.out.below J.out)
          replace Dt := hid (Dt.out.below J.out)
          replace Dz := hid (Dz.out.below J.out)
          replace D6 := hid (D6.out.below J.out)
          replace K := hid (K.out.trans (J.out.mono K.out.size))
          clear J
          go_wp2_with fail
          refine (part_raw false 1 (-1) (by omega) _).mono ?_
          rintro e w16 ⟨Ap, cp, rfl, Rp, J⟩
          replace Pl := hid (Pl.out.below J.out Pl.out.lt)
          replace Pt := hid (Pt.out.below J.out Pt.out.lt)
          replace Pz := hid (Pz.out.below J.out Pz.out.lt)
          replace P6 := hid (P6.out.below J.out P6.out.lt)
          replace Dl := hid (Dl.out.below J.out)
          replace Dt := hid (Dt.out.below J.out)
          replace Dz := hid (Dz.out.below J.out)
          replace D6 := hid (D6.out.below J.out)
          replace K := hid (K.out.trans (J.out.mono K.out.size))
          clear J
          go_wp2_with fail
          refine (dcheck_any Rp.out false (-1)).mono ?_
          rintro e w17 ⟨rfl, J1⟩
          have J := hid J1
          rw [show dchk false 1 (fun j => if j = 0 then 1 else 0) (-1) = 8 from if_neg (fun h => by have := h.2.1; omega)]
          clear J1 Rp
          replace Pl := hid (Pl.out.below J.out Pl.out.lt)
          replace Pt := hid (Pt.out.below J.out Pt.out.lt)
          replace Pz := hid (Pz.out.below J.out Pz.out.lt)
          replace P6 := hid (P6.out.below J.out P6.out.lt)
          replace Dl := hid (Dl.out.below J.out)
          replace Dt := hid (Dt.out.below J.out)
          replace Dz := hid (Dz.out.below J.out)
          replace D6 := hid (D6.out.below J.out)
          replace K := hid (K.out.trans (J.out.mono K.out.size))
          clear J
          go_wp2_with fail
          refine (dalive_any _ (HT.out.below K.out HT.out.lt)).mono ?_
          rintro e w18 ⟨rfl, J⟩
          replace Pl := hid (Pl.out.below J.out Pl.out.lt)
          replace Pt := hid (Pt.out.below J.out Pt.out.lt)
          replace Pz := hid (Pz.out.below J.out Pz.out.lt)
          replace P6 := hid (P6.out.below J.out P6.out.lt)
          replace Dl := hid (Dl.out.below J.out)
          replace Dt := hid (Dt.out.below J.out)
          replace Dz := hid (Dz.out.below J.out)
          replace D6 := hid (D6.out.below J.out)
          replace K := hid (K.out.trans (J.out.mono K.out.size))
          clear J
          go_wp2_with fail
          refine (part_any false 2 0 (by omega) (by omega) (fun h => absurd h (by omega)) (by omega) _).mono ?_
          rintro e w19 ⟨sq, Aq, nq, cq, xq, rfl, DQ, J⟩
          replace Pl := hid (Pl.out.below J.out Pl.out.lt)
          replace Pt := hid (Pt.out.below J.out Pt.out.lt)
          replace Pz := hid (Pz.out.below J.out Pz.out.lt)
          replace P6 := hid (P6.out.below J.out P6.out.lt)
          replace Dl := hid (Dl.out.below J.out)
          replace Dt := hid (Dt.out.below J.out)
          replace Dz := hid (Dz.out.below J.out)
          replace D6 := hid (D6.out.below J.out)
          replace K := hid (K.out.trans (J.out.mono K.out.size))
          clear J
          go_wp2_with fail
          refine (DQ.out.check).mono ?_
          rintro e w20 ⟨er, rfl, HQ, J⟩
          obtain rfl : er = 0 := HQ.out.1 trivial
          clear HQ DQ
          replace Pl := hid (Pl.out.below J.out Pl.out.lt)
          replace Pt := hid (Pt.out.below J.out Pt.out.lt)
          replace Pz := hid (Pz.out.below J.out Pz.out.lt)
          replace P6 := hid (P6.out.below J.out P6.out.lt)
          replace Dl := hid (Dl.out.below J.out)
          replace Dt := hid (Dt.out.below J.out)
          replace Dz := hid (Dz.out.below J.out)
          replace D6 := hid (D6.out.below J.out)
          replace K := hid (K.out.trans (J.out.mono K.out.size))
          clear J
          have cz0 := Pz.out.c0
          have cz1 := Pz.out.c1
          have cz2 := Pz.out.c2
          go_wp2_with fail
          refine (same_true Dz.out (Dn.zero 0 _).arg trivial trivial rfl).mono ?_
          rintro e w21 ⟨rfl, J⟩
          clear cz0 cz1 cz2
          replace Pl := hid (Pl.out.below J.out Pl.out.lt)
          replace Pt := hid (Pt.out.below J.out Pt.out.lt)
          replace Pz := hid (Pz.out.below J.out Pz.out.lt)
          replace P6 := hid (P6.out.below J.out P6.out.lt)
          replace Dl := hid (Dl.out.below J.out)
          replace Dt := hid (Dt.out.below J.out)
          replace Dz := hid (Dz.out.below J.out)
          replace D6 := hid (D6.out.below J.out)
          replace K := hid (K.out.trans (J.out.mono K.out.size))
          clear J
          have c60 := P6.out.c0
          have c61 := P6.out.c1
          have c62 := P6.out.c2
          go_wp2_with fail
          refine (D6.out.check).mono ?_
          rintro e w22 ⟨er, rfl, HQ, J⟩
          obtain rfl : er = 0 := HQ.out.1 trivial
          clear HQ
          clear c60 c61 c62
          replace Pl := hid (Pl.out.below J.out Pl.out.lt)
          replace Pt := hid (Pt.out.below J.out Pt.out.lt)
          replace Pz := hid (Pz.out.below J.out Pz.out.lt)
          replace P6 := hid (P6.out.below J.out P6.out.lt)
          replace Dl := hid (Dl.out.below J.out)
          replace Dt := hid (Dt.out.below J.out)
          replace Dz := hid (Dz.out.below J.out)
          replace D6 := hid (D6.out.below J.out)
          replace K := hid (K.out.trans (J.out.mono K.out.size))
          clear J
          have c60 := P6.out.c0
          have c61 := P6.out.c1
          have c62 := P6.out.c2
          go_wp2
          exact ret_bool rfl rfl rfl ⟨rfl, K.out⟩

end Go.Proofs.YtjppogmhibmebaaDoor
