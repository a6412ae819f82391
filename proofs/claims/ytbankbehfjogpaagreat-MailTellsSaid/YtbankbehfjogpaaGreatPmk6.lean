/- The document's May of a mail: kind 6. -/
import Derived.Test.YtbankbehfjogpaaGreatVae
namespace Go.Proofs.YtbankbehfjogpaaGreat
open Go.RowKit Go.Shelf Go.Lib
set_option maxRecDepth 100000
set_option maxHeartbeats 12800000 in
theorem pmay_k6 {w : World} {m : Md} {l : List De} {t : Nat → Nat} {P : Prop} (h : Prd w w.heap.size m l t) (HP : Hid (P ↔ PMay m l t)) (hk : m.kd = 6) (hi : IMay m) :
    Calls Tryz.prog 23 #[.agg (mdc m)] w (Says w P) := by
  obtain ⟨W, hW⟩ : ∃ W, W = w.alloc (.cells (mdc m) 31) := ⟨_, rfl⟩
  have K := hid (show Below w.heap.size w W from hW ▸ (Below.refl _ w).alloc (Nat.le_refl _) _)
  have X := hid (show Pbox W w.heap.size m from hW ▸ heap_alloc_new w _)
  have HW := hid hW
  have H := hid h
  have hcap := h.ls.cap
  have hcap2 := h.tg.cap
  have hmax := h.ls.max
  have hmax2 := h.tg.max
  have HI := hid hi
  have HK := hid hk
  clear hW h
  have h3 : ¬ m.fr < 0 := by have := hi.1; omega
  have h4 : ¬ 8 ≤ m.fr := by have := hi.1; omega
  have h5 : ¬ m.tu < 0 := by have := hi.2.1; omega
  have h6 : ¬ 8 ≤ m.tu := by have := hi.2.1; omega
  have h7 : ¬ m.ep < 0 := by have := hi.2.2.1; omega
  have h8 : ¬ 65535 < m.ep := by have := hi.2.2.1; omega
  have h9 : ¬ m.nu < 0 := by have := hi.2.2.2.1; omega
  have h10 : ¬ 1048575 < m.nu := by have := hi.2.2.2.1; omega
  have h11 : ¬ m.ab < 0 := by have := hi.2.2.2.2; omega
  have h12 : ¬ 1048575 < m.ab := by have := hi.2.2.2.2; omega
  clear hi
  have x0 : W.cell? ⟨w.heap.size, 0, none⟩ = some (.int .u8 6) := by rw [X.out.c0, hk]; rfl
  have x1 := X.out.c1
  have x2 := X.out.c2
  have x3 := X.out.c3
  have x4 := X.out.c4
  have x5 := X.out.c5
  clear hk
  by_cases hab : m.ab = 0
  case neg =>
    have HAb := hid hab
    go_enter Tryz.func23, Tryz.ntmps23
    go_upto_region 1 with fail
    rw [← HW.out]
    clear HW
    go_wp2
    go_ret
    exact ⟨false, rfl, hid ⟨(fun h => by cases h), fun hp => by obtain ⟨a1, a2, a3, a4, a5, a6, a7, a8, a9, a10, a11⟩ := HP.out.1 hp; exact absurd (a3.resolve_left (by have := HK.out; omega) |>.resolve_left (by have := HK.out; omega)) HAb.out⟩, K⟩
  have HAb := hid hab
  have CM := hid (emmay_any (H.out.on K.out).ms)
  go_enter Tryz.func23, Tryz.ntmps23
  go_upto_region 1 with fail
  rw [← HW.out]
  clear HW
  go_wp2_with (first | (with_reducible refine wp_gmass (by kernel_rfl) (.tmp 77) rfl w.heap.size m rfl X.out ?_) | fail)
  refine CM.out.mono ?_
  rintro e v1 ⟨r, rfl, hr, hb⟩
  clear x0 x1 x2 x3 x4 x5 CM
  replace K := hid (K.out.trans (hb.out.mono K.out.size))
  replace X := hid (X.out.below hb.out X.out.lt)
  clear hb
  cases r with
  | false =>
    go_wp2
    go_ret
    exact ⟨false, rfl, hid ⟨(fun h => by cases h), fun hp => by obtain ⟨a1, a2, a3, a4, a5, a6, a7, a8, a9, a10, a11⟩ := HP.out.1 hp; exact absurd (hr.out.2 a4) (by decide)⟩, K⟩
  | true =>
    have HM := hid (hr.out.1 rfl)
    clear hr
    have CK := hid (rcheck_any' (H.out.on K.out).ls)
    have x19 := X.out.c19
    go_wp2_with fail
    refine CK.out.mono ?_
    rintro e v2 ⟨r, rfl, hr, hb⟩
    clear x19 CK
    replace K := hid (K.out.trans (hb.out.mono K.out.size))
    replace X := hid (X.out.below hb.out X.out.lt)
    clear hb
    by_cases hr0 : r = 0
    case neg =>
      have HR0 := hid (show ¬ kchk l = 0 from fun e => hr0 (hr.out.trans e))
      go_wp2
      go_ret
      exact ⟨false, rfl, hid ⟨(fun h => by cases h), fun hp => by obtain ⟨a1, a2, a3, a4, a5, a6, a7, a8, a9, a10, a11⟩ := HP.out.1 hp; exact absurd a5 HR0.out⟩, K⟩
    subst hr0
    have HL := hid (hr.out.symm)
    clear hr
    have CE := hid (fun W => emayedge_says m.ha m.mn m.mx W)
    go_wp2_with (first | (with_reducible refine wp_gedge (by kernel_rfl) (.tmp 89) rfl w.heap.size m rfl X.out ?_) | fail)
    refine (CE.out _).mono ?_
    rintro e v3 ⟨r, rfl, hr, hb⟩
    clear CE
    replace K := hid (K.out.trans (hb.out.mono K.out.size))
    replace X := hid (X.out.below hb.out X.out.lt)
    clear hb
    cases r with
    | false =>
      go_wp2
      go_ret
      exact ⟨false, rfl, hid ⟨(fun h => by cases h), fun hp => by obtain ⟨a1, a2, a3, a4, a5, a6, a7, a8, a9, a10, a11⟩ := HP.out.1 hp; exact absurd (hr.out.2 a6) (by decide)⟩, K⟩
    | true =>
      have HE := hid (hr.out.1 rfl)
      clear hr
      have CL := hid (emayleast_any (H.out.on K.out).tg (Nat.le_refl _))
      have x23 := X.out.c23
      go_wp2_with fail
      refine CL.out.mono ?_
      rintro e v4 ⟨r, rfl, hr, hb⟩
      clear x23 CL
      replace K := hid (K.out.trans (hb.out.mono K.out.size))
      replace X := hid (X.out.below hb.out X.out.lt)
      clear hb
      cases r with
      | false =>
        go_wp2
        go_ret
        exact ⟨false, rfl, hid ⟨(fun h => by cases h), fun hp => by obtain ⟨a1, a2, a3, a4, a5, a6, a7, a8, a9, a10, a11⟩ := HP.out.1 hp; exact absurd (hr.out.2 a7) (by decide)⟩, K⟩
      | true =>
        have HT := hid (hr.out.1 rfl)
        clear hr
        have x0 : v4.cell? ⟨w.heap.size, 0, none⟩ = some (.int .u8 6) := by rw [X.out.c0, HK.out]; rfl
        have CZ := hid (ezero_any ((H.out.on K.out).ms 0 (by omega)))
        go_wp2_with (first | (with_reducible refine wp_gdyad0 (by kernel_rfl) (.tmp 105) rfl w.heap.size m rfl X.out ?_) | fail)
        refine CZ.out.mono ?_
        rintro e v5 ⟨r, rfl, hr, hb⟩
        clear x0 CZ
        replace K := hid (K.out.trans (hb.out.mono K.out.size))
        replace X := hid (X.out.below hb.out X.out.lt)
        clear hb
        have x0 : v5.cell? ⟨w.heap.size, 0, none⟩ = some (.int .u8 6) := by rw [X.out.c0, HK.out]; rfl
        cases r with
        | false =>
          go_wp2
          go_ret
          exact ⟨false, rfl, hid ⟨(fun h => by cases h), fun hp => by obtain ⟨a1, a2, a3, a4, a5, a6, a7, a8, a9, a10, a11⟩ := HP.out.1 hp; exact absurd (hr.out.2 (a8.resolve_left (by have := HK.out; omega)).1) (by decide)⟩, K⟩
        | true =>
          have HZ0 := hid (hr.out.1 rfl)
          clear hr
          have CZ := hid (ezero_any ((H.out.on K.out).ms 1 (by omega)))
          go_wp2_with (first | (with_reducible refine wp_gdyad1 (by kernel_rfl) (.tmp 111) rfl w.heap.size m rfl X.out ?_) | fail)
          refine CZ.out.mono ?_
          rintro e v6 ⟨r, rfl, hr, hb⟩
          clear x0 CZ
          replace K := hid (K.out.trans (hb.out.mono K.out.size))
          replace X := hid (X.out.below hb.out X.out.lt)
          clear hb
          have x0 : v6.cell? ⟨w.heap.size, 0, none⟩ = some (.int .u8 6) := by rw [X.out.c0, HK.out]; rfl
          cases r with
          | false =>
            go_wp2
            go_ret
            exact ⟨false, rfl, hid ⟨(fun h => by cases h), fun hp => by obtain ⟨a1, a2, a3, a4, a5, a6, a7, a8, a9, a10, a11⟩ := HP.out.1 hp; exact absurd (hr.out.2 (a8.resolve_left (by have := HK.out; omega)).2) (by decide)⟩, K⟩
          | true =>
            have HZ1 := hid (hr.out.1 rfl)
            clear hr
            have CZ := hid (ezero_any ((H.out.on K.out).ms 2 (by omega)))
            go_wp2_with (first | (with_reducible refine wp_gdyad2 (by kernel_rfl) (.tmp 128) rfl w.heap.size m rfl X.out ?_) | fail)
            refine CZ.out.mono ?_
            rintro e v7 ⟨r, rfl, hr, hb⟩
            clear x0 CZ
            replace K := hid (K.out.trans (hb.out.mono K.out.size))
            replace X := hid (X.out.below hb.out X.out.lt)
            clear hb
            have x0 : v7.cell? ⟨w.heap.size, 0, none⟩ = some (.int .u8 6) := by rw [X.out.c0, HK.out]; rfl
            cases r with
            | false =>
              go_wp2
              go_ret
              exact ⟨false, rfl, hid ⟨(fun h => by cases h), fun hp => by obtain ⟨a1, a2, a3, a4, a5, a6, a7, a8, a9, a10, a11⟩ := HP.out.1 hp; exact absurd (hr.out.2 ((a9.resolve_left (by have := HK.out; omega)).resolve_left (by have := HK.out; omega)).1) (by decide)⟩, K⟩
            | true =>
              have HZ2 := hid (hr.out.1 rfl)
              clear hr
              have CZ := hid (ezero_any ((H.out.on K.out).ms 3 (by omega)))
              go_wp2_with (first | (with_reducible refine wp_gdyad3 (by kernel_rfl) (.tmp 134) rfl w.heap.size m rfl X.out ?_) | fail)
              refine CZ.out.mono ?_
              rintro e v8 ⟨r, rfl, hr, hb⟩
              clear x0 CZ
              replace K := hid (K.out.trans (hb.out.mono K.out.size))
              replace X := hid (X.out.below hb.out X.out.lt)
              clear hb
              have x0 : v8.cell? ⟨w.heap.size, 0, none⟩ = some (.int .u8 6) := by rw [X.out.c0, HK.out]; rfl
              cases r with
              | false =>
                go_wp2
                go_ret
                exact ⟨false, rfl, hid ⟨(fun h => by cases h), fun hp => by obtain ⟨a1, a2, a3, a4, a5, a6, a7, a8, a9, a10, a11⟩ := HP.out.1 hp; exact absurd (hr.out.2 ((a9.resolve_left (by have := HK.out; omega)).resolve_left (by have := HK.out; omega)).2) (by decide)⟩, K⟩
              | true =>
                have HZ3 := hid (hr.out.1 rfl)
                clear hr
                have x18 := X.out.c18
                have x19 := X.out.c19
                have x20 := X.out.c20
                have x23 := X.out.c23
                cases hwa : m.wa with
                | true =>
                  have HWa := hid hwa
                  clear hwa
                  rw [HWa.out] at x18
                  go_wp2
                  go_ret
                  exact ⟨false, rfl, hid ⟨(fun h => by cases h), fun hp => by obtain ⟨a1, a2, a3, a4, a5, a6, a7, a8, a9, a10, a11⟩ := HP.out.1 hp; exact absurd ((a10.resolve_left (by have := HK.out; omega)).1.symm.trans HWa.out) (by decide)⟩, K⟩
                | false =>
                  have HWa := hid hwa
                  clear hwa
                  rw [HWa.out] at x18
                  by_cases hnn : m.n = 0
                  case neg =>
                    have HNn := hid hnn
                    have hnz : ¬ (m.n : Int) = 0 := by omega
                    have hnb : ((m.n : Int) == 0) = false := beq_eq_false_iff_ne.2 hnz
                    clear hnn
                    go_wp2
                    go_ret
                    exact ⟨false, rfl, hid ⟨(fun h => by cases h), fun hp => by obtain ⟨a1, a2, a3, a4, a5, a6, a7, a8, a9, a10, a11⟩ := HP.out.1 hp; exact absurd (a10.resolve_left (by have := HK.out; omega)).2 HNn.out⟩, K⟩
                  have HNn := hid hnn
                  have hnz : (m.n : Int) = 0 := by omega
                  have hnb : ((m.n : Int) == 0) = true := beq_iff_eq.2 hnz
                  clear hnn
                  go_wp2
                  go_ret
                  exact ⟨true, rfl, hid ⟨fun _ => HP.out.2 ⟨⟨by have := HK.out; omega, by have := HK.out; omega⟩, HI.out, .inr (.inr HAb.out), HM.out, HL.out, HE.out, HT.out, .inr ⟨HZ0.out, HZ1.out⟩, .inr (.inr ⟨HZ2.out, HZ3.out⟩), .inr ⟨HWa.out, HNn.out⟩, .inl HK.out⟩, fun _ => rfl⟩, K⟩
end Go.Proofs.YtbankbehfjogpaaGreat
