/- Flight: the document's Launch. -/
/- Flight: the law's own helper spoil. -/
import Derived.Test.YtdcolnipdipkhaaZs1
import Derived.Test.YtdcolnipdipkhaaVao

namespace Go.Proofs.Ytdcolnipdipkhaa.Fli
set_option maxRecDepth 100000
open Go.RowKit Go.Shelf Go.Lib

set_option maxHeartbeats 6400000 in
theorem rlaunch_any {w : World} {B a c : Nat} {A : Option Addr} {l : List (Ld Pm)} {n ep : Int} {M : Nat → Dy} (h : Lls w B A a c l) (hM : Mrd w B M) (hnil : ∀ k, k < 4 → (M k).A = none → (M k).n = 0 ∧ (M k).c = 0) (hB : B ≤ w.heap.size) (hz : SzL l) (hzm : SzM (pmd M)) :
    Calls Try.prog 9 #[.slice A a c, .int .i64 n, .int .i64 ep, .agg (mcells M)] w (LstE w (lnL l n ep (pmd M)) (lnE l n ep (pmd M))) := by
  obtain ⟨W, hW⟩ : ∃ W, W = w.alloc (.cells (mcells M) 27) := ⟨_, rfl⟩
  have B0 := hid (show Below w.heap.size w W from hW ▸ (Below.refl _ w).alloc (Nat.le_refl _) _)
  have M0 := hid (show Mbox W w.heap.size M from hW ▸ heap_alloc_new w _)
  have HW := hid hW
  have HA := hid (asked_any n (h.below (B0.out.mono hB)) (Nat.le_trans hB B0.out.size))
  have HL := hid h.len
  have HK := hid h
  have HM := hid hM
  have HZ := hid hz
  have HZM := hid hzm
  have HNIL := hid hnil
  have hmax := h.max
  have hcap := h.cap
  clear hW h hM hz hzm hnil
  by_cases h0 : askE l n = 0
  case neg =>
    have HE := hid (lnE_ask (ep := ep) (g := pmd M) h0)
    generalize askE l n = q at *
    have hne : ¬ q = 0 := h0
    go_enter Try.func9, Try.ntmps9
    go_upto_region 1 with fail
    rw [← HW.out]
    go_wp2_with fail
    refine HA.out.mono ?_
    rintro e w1 ⟨rfl, H1⟩
    go_wp2
    go_ret2
    exact lst_err HE.out h0 (gbelow_on B0.out (Nat.le_refl _) H1.out)
  have H0 := hid h0
  rw [h0] at HA
  clear h0
  go_enter Try.func9, Try.ntmps9
  go_upto_region 1 with fail
  rw [← HW.out]
  go_wp2_with fail
  refine HA.out.mono ?_
  rintro e w1 ⟨rfl, H1⟩
  have B1 := hid (gbelow_on B0.out (Nat.le_refl _) H1.out)
  have M1 := hid (show Mbox w1 w.heap.size M from M0.out.below H1.out M0.out.lt)
  have m1 := mbox_row M1.out
  by_cases e1 : ep < 0
  · have HE := hid (lnE_ep (g := pmd M) H0.out (show ¬ (0 ≤ ep ∧ ep ≤ 65535) from fun k => by omega))
    go_wp2
    go_ret2
    exact lst_err HE.out (by decide) B1.out
  by_cases e2 : ep > 65535
  · have HE := hid (lnE_ep (g := pmd M) H0.out (show ¬ (0 ≤ ep ∧ ep ≤ 65535) from fun k => by omega))
    go_wp2
    go_ret2
    exact lst_err HE.out (by decide) B1.out
  have HEP := hid (show 0 ≤ ep ∧ ep ≤ 65535 from ⟨by omega, by omega⟩)
  have CM := hid (emmay_any (w := w1) (D := M) (fun k hk => ((HM.out k hk).below (B1.out.mono hB)).mono (Nat.le_trans hB B1.out.size)))
  go_wp2_with (first | (refine wp_lm rfl (.tmp 7) rfl w.heap.size 0 M rfl m1 ?_) | fail)
  refine CM.out.mono ?_
  rintro e w3 ⟨t, rfl, H3, H4⟩
  have B3 := hid (gbelow_on B1.out (Nat.le_refl _) H4.out)
  have M3 := hid (show Mbox w3 w.heap.size M from M1.out.below H4.out M1.out.lt)
  clear m1 CM
  cases t
  case false =>
    have HE := hid (lnE_bad (g := pmd M) H0.out HEP.out (fun hm => absurd (H3.out.2 ((may_pmd M).1 hm)) (by decide)))
    go_wp2
    go_ret2
    exact lst_err HE.out (by decide) B3.out
  have HMM := hid (show MayM (pmd M) from (may_pmd M).2 (H3.out.1 rfl))
  have CP := hid (place_any (x := n) (HK.out.below (B3.out.mono hB)) (Nat.le_trans hB B3.out.size))
  go_wp2_with fail
  refine CP.out.mono ?_
  rintro e w4 ⟨i, rfl, hpl, H5⟩
  have B4 := hid (gbelow_on B3.out (Nat.le_refl _) H5.out)
  have M4 := hid (show Mbox w4 w.heap.size M from M3.out.below H5.out M3.out.lt)
  have m4 := mbox_row M4.out
  clear CP
  rcases plc_fnd hpl.out (askE_zero.1 H0.out).1.2.2 with ⟨rfl, hf⟩ | ⟨j, p, rfl, hj, hpx, hf⟩
  case inr =>
    have HE := hid (lnE_again (g := pmd M) H0.out HEP.out HMM.out (by rw [hf]; simp))
    have hjp : (j : Int) ≥ 0 := by omega
    clear hf hj hpx hpl
    go_wp2
    go_ret2
    exact lst_err HE.out (by decide) B4.out
  have HFN := hid hf
  clear hf hpl
  have h16l := hid (show l.length ≤ 16 from (askE_zero.1 H0.out).1.1)
  by_cases h16 : (a : Int) ≥ 16
  · have HE := hid (lnE_full (g := pmd M) H0.out HEP.out HMM.out HFN.out (by have := h16l.out; have := HL.out; omega))
    go_wp2
    go_ret2
    exact lst_err HE.out (by decide) B4.out
  have HE := hid (lnE_ok (g := pmd M) H0.out HEP.out HMM.out HFN.out (by rw [HL.out]; omega))
  have hB4 := Nat.le_trans hB B4.out.size
  have CL := hid (rlaunched_any (x := n) (y := ep) (z := 1) (M := M) (q := (n, ep, 1, pmd M)) (HK.out.below (B4.out.mono hB)) hB4 ⟨rfl, rfl, rfl, rfl, fun k hk => (HM.out k hk).below (B4.out.mono hB), HNIL.out⟩ (HZ.out.ins HZM.out (by have := h16l.out; omega)))
  go_wp2_with (first
    | (refine wp_lm rfl (.tmp 7) rfl w.heap.size 0 M rfl m4 ?_)
    | fail)
  refine CL.out.mono ?_
  rintro e w5 ⟨v, rs, rfl, H7⟩
  have H8 := hid (And.intro H7.out.1 (gbelow_on B4.out (Nat.le_refl _) H7.out.2))
  clear H7
  go_wp2
  go_ret2
  rw [HE.out, show lnL l n ep (pmd M) = ins (n, ep, 1, pmd M) l by unfold lnL; rw [HE.out]; rfl]
  exact ⟨v, rs, rfl, hid ⟨H8.out.1.mono B4.out.size, H8.out.2⟩⟩
end Go.Proofs.Ytdcolnipdipkhaa.Fli


namespace Go.Proofs.Ytdcolnipdipkhaa.Fli
set_option maxRecDepth 100000
open Go.RowKit Go.Shelf Go.Lib

/-- Blocks that are not of S stay. -/
structure KeepS (S : Nat → Prop) (w w' : World) : Prop where
  os : w'.os = w.os
  tape : w'.tape = w.tape
  output : w'.output = w.output
  size : w.heap.size ≤ w'.heap.size
  block : ∀ k, k < w.heap.size → ¬ S k → w'.heap[k]? = w.heap[k]?
theorem KeepS.refl (S : Nat → Prop) (w : World) : KeepS S w w := ⟨rfl, rfl, rfl, Nat.le_refl _, fun _ _ _ => rfl⟩
theorem KeepS.below {B : Nat} {S : Nat → Prop} {w w' : World} (h : KeepS S w w') (hS : ∀ q, S q → B ≤ q) (hB : B ≤ w.heap.size) : Below B w w' := ⟨h.os, h.tape, h.output, h.size, fun k hk => h.block k (by omega) (fun hs => by have := hS k hs; omega)⟩
theorem KeepS.gq {S : Nat → Prop} {g : Nat} {w X Y : World} (h : KeepS S w X) (q : Gq g X Y) (hg : S g) : KeepS S w Y :=
  ⟨q.os.trans h.os, q.tape.trans h.tape, q.output.trans h.output, Nat.le_trans h.size (Nat.le_of_eq q.size), fun k hk hn => (q.block k (fun e => hn (e ▸ hg))).trans (h.block k hk hn)⟩
theorem gq_set (w : World) (g j : Nat) (u : Value) : Gq g w (w.setCell ⟨g, j, none⟩ u) := ⟨rfl, rfl, rfl, by simp [World.setCell], fun b hb => Below.heap_setCell _ ⟨g, j, none⟩ _ b hb⟩
/-- Limbs that may be written over. -/
def Slo (S : Nat → Prop) (w : World) (d : Dy) : Prop := 0 < d.n → ∃ g cs, d.A = some ⟨g, 0, none⟩ ∧ S g ∧ w.heap[g]? = some (.cells cs 70 (0, 0)) ∧ d.n ≤ cs.size
/-- What spoil keeps while it goes. -/
structure SplI (w : World) (S : Nat → Prop) (g n : Nat) (rs : List Lr) (X : World) : Prop where
  row : ∃ cur, X.heap[g]? = some (.cells cur 40 (0, 0)) ∧ n * 15 ≤ cur.size ∧ ∀ (j : Nat) (r : Lr), rs[j]? = some r → cur[j * 15 + 4]? = some (.slice (r.2.2.2 0).A (r.2.2.2 0).n (r.2.2.2 0).c) ∧ cur[j * 15 + 13]? = some (.slice (r.2.2.2 3).A (r.2.2.2 3).n (r.2.2.2 3).c)
  lim : ∀ r ∈ rs, Slo S X (r.2.2.2 0) ∧ Slo S X (r.2.2.2 3)
  keep : KeepS S w X
theorem SplI.num {w X : World} {S : Nat → Prop} {g n i : Nat} {rs : List Lr} (h : SplI w S g n rs X) (hS : S g) (u : Value) : SplI w S g n rs (X.setCell ⟨g, i * 15, none⟩ u) := by
  obtain ⟨⟨cur, h1, h2, h3⟩, h4, h5⟩ := h
  have q := gq_set X g (i * 15) u
  have hk : ∀ d : Dy, Slo S X d → Slo S (X.setCell ⟨g, i * 15, none⟩ u) d := fun d hd h0 => by
    obtain ⟨t, cs, e, hs, hh, hc⟩ := hd h0
    have hne : t ≠ g := fun e => by
      subst e
      rw [h1] at hh
      injection hh with hh
      injection hh with _ ht _
      exact absurd ht (by decide)
    exact ⟨t, cs, e, hs, (q.block t hne).trans hh, hc⟩
  refine ⟨⟨_, heap_setCell_same X g (i * 15) cur _ u h1, by simpa using h2, fun j r hr => ?_⟩, fun r hr => ⟨hk _ (h4 r hr).1, hk _ (h4 r hr).2⟩, h5.gq q hS⟩
  rw [Array.getElem?_setIfInBounds, if_neg (by omega), Array.getElem?_setIfInBounds, if_neg (by omega)]
  exact h3 j r hr
theorem SplI.limb {w X : World} {S : Nat → Prop} {g n tb j : Nat} {rs : List Lr} {cur : Array Value} (h : SplI w S g n rs X) (hS : S tb) (hb : X.heap[tb]? = some (.cells cur 70 (0, 0))) (u : Value) : SplI w S g n rs (X.setCell ⟨tb, j, none⟩ u) := by
  obtain ⟨⟨cr, h1, h2, h3⟩, h4, h5⟩ := h
  have q := gq_set X tb j u
  have hne : g ≠ tb := fun e => by
    subst e
    rw [h1] at hb
    injection hb with hb
    injection hb with _ ht _
    exact absurd ht (by decide)
  have hk : ∀ d : Dy, Slo S X d → Slo S (X.setCell ⟨tb, j, none⟩ u) d := fun d hd h0 => by
    obtain ⟨t2, cs, e, hs2, hh2, hc2⟩ := hd h0
    by_cases htt : t2 = tb
    · subst htt
      rw [hb] at hh2
      injection hh2 with hh2
      injection hh2 with e1 _ _
      subst e1
      exact ⟨t2, _, e, hs2, heap_setCell_same X t2 j cur _ u hb, by simpa using hc2⟩
    · exact ⟨t2, cs, e, hs2, (q.block t2 htt).trans hh2, hc2⟩
  exact ⟨⟨cr, (q.block g hne).trans h1, h2, h3⟩, fun r hr => ⟨hk _ (h4 r hr).1, hk _ (h4 r hr).2⟩, h5.gq q hS⟩

set_option maxHeartbeats 6400000 in
theorem spl_on {w : World} {S : Nat → Prop} {g n c : Nat} {rs : List Lr} (I0 : Hid (SplI w S g n rs w)) (hrn : Hid (rs.length = n)) (hS : S g) (hcap : n ≤ c) (hn : n ≤ 100000)
    (HT : Hid (∀ (j : Nat) (r : Lr), rs[j]? = some r → ∀ k, k < 4 → (r.2.2.2 k).n ≤ 140737488355328 ∧ (r.2.2.2 k).n ≤ (r.2.2.2 k).c)) :
    Calls Try.prog 20 #[.slice (some ⟨g, 0, none⟩) n c] w fun e w' => e = .returned (.tuple #[]) ∧ Hid (KeepS S w w') := by
  have HS := hid hS
  clear hS
  go_enter Try.func20, Try.ntmps20
  go_wp2
  go_loopg [2] n (fun gg s2 wr => ∃ kk : Nat, kk ≤ n ∧ n - kk ≤ gg ∧ s2 = .int .i64 kk ∧ Hid (SplI w S g n rs wr))
  case atStart => exact ⟨0, Nat.zero_le _, by omega, rfl, I0⟩
  case round =>
    obtain ⟨kk, hkk, hg, rfl, HI⟩ := hrel
    by_cases hlt : kk < n
    · have hltz : (kk : Int) < (n : Int) := by omega
      obtain ⟨r, hr⟩ : ∃ r, rs[kk]? = some r := ⟨_, List.getElem?_eq_getElem (by rw [hrn.out]; exact hlt)⟩
      obtain ⟨hm0, hc0⟩ := HT.out kk r hr 0 (by omega)
      obtain ⟨hm3, hc3⟩ := HT.out kk r hr 3 (by omega)
      have HR := hid hr
      obtain ⟨D, hD⟩ : ∃ D, D = (r.2.2.2 0).A := ⟨_, rfl⟩
      obtain ⟨m, hm⟩ : ∃ m, m = (r.2.2.2 0).n := ⟨_, rfl⟩
      obtain ⟨d, hd⟩ : ∃ d, d = (r.2.2.2 0).c := ⟨_, rfl⟩
      obtain ⟨D2, hD2⟩ : ∃ D, D = (r.2.2.2 3).A := ⟨_, rfl⟩
      obtain ⟨m2, hm2⟩ : ∃ m, m = (r.2.2.2 3).n := ⟨_, rfl⟩
      obtain ⟨d2, hd2⟩ : ∃ d, d = (r.2.2.2 3).c := ⟨_, rfl⟩
      have HE := hid (And.intro (And.intro hD (And.intro hm hd)) (And.intro hD2 (And.intro hm2 hd2)))
      rw [← hm] at hm0 hc0
      rw [← hd] at hc0
      rw [← hm2] at hm3 hc3
      rw [← hd2] at hc3
      have HI2 := hid (HI.out.num (i := kk) HS.out (.int .i64 (-7)))
      obtain ⟨cur2, q1, q2, q3⟩ := HI.out.row
      obtain ⟨u0, hu0⟩ : ∃ u0, cur2[kk * 15]? = some u0 := ⟨_, Array.getElem?_eq_getElem (by omega)⟩
      have k0 : wr.cell? ⟨g, kk * 15, none⟩ = some u0 := (cell_of_row wr g _ cur2 _ (0, 0) q1).trans hu0
      have f0 : wr.frozen? ⟨g, kk * 15, none⟩ = false := frozen_of_row wr g _ cur2 _ q1
      clear hr q1 q2 q3 hu0 hD hm hd hD2 hm2 hd2
      go_upto_block 0 with fail
      go_loopg [3] m (fun gg s3 wx => ∃ j : Nat, j ≤ m ∧ m - j ≤ gg ∧ s3 = .int .i64 j ∧ Hid (SplI w S g n rs wx))
      case atStart => exact ⟨0, Nat.zero_le _, by omega, rfl, HI2⟩
      case round =>
        clear k0 f0 HI2
        obtain ⟨j, hj, hg2, rfl, HJ⟩ := hrel
        obtain ⟨cur2, q1, q2, q3⟩ := HJ.out.row
        have k2 : wr.cell? ⟨g, kk * 15 + 4, none⟩ = some (.slice D m d) := by
          rw [HE.out.1.1, HE.out.1.2.1, HE.out.1.2.2]
          exact (cell_of_row wr g _ cur2 _ (0, 0) q1).trans (q3 kk _ HR.out).1
        clear q1 q2 q3
        by_cases hlt2 : j < m
        · have hltz2 : (j : Int) < (m : Int) := by omega
          obtain ⟨tb, cb, hD, hsb, hhb, hcb⟩ := (HJ.out.lim _ (List.mem_of_getElem? HR.out)).1 (by rw [← HE.out.1.2.1]; omega)
          rw [← HE.out.1.1] at hD
          rw [← HE.out.1.2.1] at hcb
          subst hD
          obtain ⟨u1, hu1⟩ : ∃ u1, cb[j]? = some u1 := ⟨_, Array.getElem?_eq_getElem (by omega)⟩
          have k1 : wr.cell? ⟨tb, j, none⟩ = some u1 := (cell_of_row wr tb _ cb _ (0, 0) hhb).trans hu1
          have f1 : wr.frozen? ⟨tb, j, none⟩ = false := frozen_of_row wr tb _ cb _ hhb
          have HN := hid (HJ.out.limb (j := j) hsb hhb (.int .u32 7))
          clear hsb hhb hcb hu1
          go_wp2
          go_roundg (m - (j + 1))
          case measure => omega
          case rel => exact ⟨j + 1, by omega, by omega, by go_num, HN⟩
        · have hltz2 : ¬ (j : Int) < (m : Int) := by omega
          go_upto_block 0 with fail
          clear k2
          go_loopg [4] m2 (fun gg s4 wx => ∃ j : Nat, j ≤ m2 ∧ m2 - j ≤ gg ∧ s4 = .int .i64 j ∧ Hid (SplI w S g n rs wx))
          case atStart => exact ⟨0, Nat.zero_le _, by omega, rfl, HJ⟩
          case round =>
            clear HJ
            obtain ⟨j2, hj2, hg3, rfl, HJ⟩ := hrel
            obtain ⟨cur2, q1, q2, q3⟩ := HJ.out.row
            have k2 : wr.cell? ⟨g, kk * 15 + 13, none⟩ = some (.slice D2 m2 d2) := by
              rw [HE.out.2.1, HE.out.2.2.1, HE.out.2.2.2]
              exact (cell_of_row wr g _ cur2 _ (0, 0) q1).trans (q3 kk _ HR.out).2
            clear q1 q2 q3
            by_cases hlt3 : j2 < m2
            · have hltz3 : (j2 : Int) < (m2 : Int) := by omega
              obtain ⟨tb, cb, hD, hsb, hhb, hcb⟩ := (HJ.out.lim _ (List.mem_of_getElem? HR.out)).2 (by rw [← HE.out.2.2.1]; omega)
              rw [← HE.out.2.1] at hD
              rw [← HE.out.2.2.1] at hcb
              subst hD
              obtain ⟨u1, hu1⟩ : ∃ u1, cb[j2]? = some u1 := ⟨_, Array.getElem?_eq_getElem (by omega)⟩
              have k1 : wr.cell? ⟨tb, j2, none⟩ = some u1 := (cell_of_row wr tb _ cb _ (0, 0) hhb).trans hu1
              have f1 : wr.frozen? ⟨tb, j2, none⟩ = false := frozen_of_row wr tb _ cb _ hhb
              have HN := hid (HJ.out.limb (j := j2) hsb hhb (.int .u32 7))
              clear hsb hhb hcb hu1
              go_wp2
              go_roundg (m2 - (j2 + 1))
              case measure => omega
              case rel => exact ⟨j2 + 1, by omega, by omega, by go_num, HN⟩
            · have hltz3 : ¬ (j2 : Int) < (m2 : Int) := by omega
              go_wp2
              go_roundg (n - (kk + 1))
              case measure => omega
              case rel => exact ⟨kk + 1, by omega, by omega, by go_num, HJ⟩
    · have hltz : ¬ (kk : Int) < (n : Int) := by omega
      obtain rfl : kk = n := by omega
      go_wp2
      go_end0
      exact ⟨rfl, hid HI.out.keep⟩
set_option maxHeartbeats 1600000 in
theorem spl_none {w : World} {S : Nat → Prop} {A : Option Addr} {c : Nat} : Calls Try.prog 20 #[.slice A 0 c] w fun e w' => e = .returned (.tuple #[]) ∧ Hid (KeepS S w w') := by
  go_enter Try.func20, Try.ntmps20
  go_wp2
  go_loopg [2] 0 (fun gg s2 wr => s2 = .int .i64 0 ∧ wr = w)
  case atStart => exact ⟨rfl, rfl⟩
  case round =>
    obtain ⟨rfl, rfl⟩ := hrel
    go_wp2
    go_end0
    exact ⟨rfl, hid (KeepS.refl S _)⟩
end Go.Proofs.Ytdcolnipdipkhaa.Fli

