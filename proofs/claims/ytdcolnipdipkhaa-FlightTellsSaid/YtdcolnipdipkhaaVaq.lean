/- Masses: what is too great; the law's half, alive. -/
/- Flight: the document's Great; what spoil leaves of loads that own what they hold. -/
import Derived.Test.YtdcolnipdipkhaaVam
import Derived.Test.YtdcolnipdipkhaaVap

namespace Go.Proofs.Ytdcolnipdipkhaa
set_option maxRecDepth 100000
open Go.RowKit Go.Shelf

/-- A mass that is more than statements go through. -/
def MGr (D : Nat → Dy) : Prop := ∃ k, k < 4 ∧ (42 < (D k).n ∨ 1100 < (D k).x)

set_option maxHeartbeats 1600000 in
theorem mgreat_any {w : World} {D : Nat → Dy} (hn : ∀ k, k < 4 → (D k).n ≤ 140737488355328) :
    Calls Try.prog 5 #[.agg (mcells D)] w fun e w' => ∃ r : Bool, e = .returned (.bool r) ∧ Hid (r = true ↔ MGr D) ∧ Hid (Below w.heap.size w w') := by
  obtain ⟨W, hW⟩ : ∃ W, W = w.alloc (.cells (mcells D) 27) := ⟨_, rfl⟩
  have HW := hid hW
  have K := hid (show Below w.heap.size w W from hW ▸ (Below.refl _ w).alloc (Nat.le_refl _) _)
  have P := hid (show Mbox W w.heap.size D from hW ▸ heap_alloc_new w _)
  have Hn := hid hn
  clear hW hn
  by_cases h0 : 42 < (D 0).n ∨ 1100 < (D 0).x
  · replace h0 := hid h0
    go_enter Try.func5, Try.ntmps5
    go_upto_region 1 with fail
    rw [← HW.out]
    have a0 := P.out.at_ 0 _ rfl
    have a1 := P.out.at_ 1 _ rfl
    have a2 := P.out.at_ 2 _ rfl
    go_wp2_with fail
    refine (dgreat_any _ _ _ _ _ _ (Hn.out 0 (by omega))).mono ?_
    rintro e w0 ⟨rfl, hb⟩
    rw [bool_of_dec h0.out]
    clear a0 a1 a2
    replace K := hid (K.out.trans (hb.out.mono K.out.size))
    replace P := hid (P.out.below hb.out P.out.lt)
    clear hb
    go_wp2
    go_ret
    exact ⟨true, rfl, ⟨fun _ => ⟨0, by omega, h0.out⟩, fun _ => rfl⟩, K.out⟩
  · replace h0 := hid h0
    by_cases h1 : 42 < (D 1).n ∨ 1100 < (D 1).x
    · replace h1 := hid h1
      go_enter Try.func5, Try.ntmps5
      go_upto_region 1 with fail
      rw [← HW.out]
      have a0 := P.out.at_ 0 _ rfl
      have a1 := P.out.at_ 1 _ rfl
      have a2 := P.out.at_ 2 _ rfl
      go_wp2_with fail
      refine (dgreat_any _ _ _ _ _ _ (Hn.out 0 (by omega))).mono ?_
      rintro e w0 ⟨rfl, hb⟩
      rw [bool_of_not h0.out]
      clear a0 a1 a2
      replace K := hid (K.out.trans (hb.out.mono K.out.size))
      replace P := hid (P.out.below hb.out P.out.lt)
      clear hb
      have a0 := P.out.at_ 3 _ rfl
      have a1 := P.out.at_ 4 _ rfl
      have a2 := P.out.at_ 5 _ rfl
      go_wp2_with fail
      refine (dgreat_any _ _ _ _ _ _ (Hn.out 1 (by omega))).mono ?_
      rintro e w1 ⟨rfl, hb⟩
      rw [bool_of_dec h1.out]
      clear a0 a1 a2
      replace K := hid (K.out.trans (hb.out.mono K.out.size))
      replace P := hid (P.out.below hb.out P.out.lt)
      clear hb
      go_wp2
      go_ret
      exact ⟨true, rfl, ⟨fun _ => ⟨1, by omega, h1.out⟩, fun _ => rfl⟩, K.out⟩
    · replace h1 := hid h1
      by_cases h2 : 42 < (D 2).n ∨ 1100 < (D 2).x
      · replace h2 := hid h2
        go_enter Try.func5, Try.ntmps5
        go_upto_region 1 with fail
        rw [← HW.out]
        have a0 := P.out.at_ 0 _ rfl
        have a1 := P.out.at_ 1 _ rfl
        have a2 := P.out.at_ 2 _ rfl
        go_wp2_with fail
        refine (dgreat_any _ _ _ _ _ _ (Hn.out 0 (by omega))).mono ?_
        rintro e w0 ⟨rfl, hb⟩
        rw [bool_of_not h0.out]
        clear a0 a1 a2
        replace K := hid (K.out.trans (hb.out.mono K.out.size))
        replace P := hid (P.out.below hb.out P.out.lt)
        clear hb
        have a0 := P.out.at_ 3 _ rfl
        have a1 := P.out.at_ 4 _ rfl
        have a2 := P.out.at_ 5 _ rfl
        go_wp2_with fail
        refine (dgreat_any _ _ _ _ _ _ (Hn.out 1 (by omega))).mono ?_
        rintro e w1 ⟨rfl, hb⟩
        rw [bool_of_not h1.out]
        clear a0 a1 a2
        replace K := hid (K.out.trans (hb.out.mono K.out.size))
        replace P := hid (P.out.below hb.out P.out.lt)
        clear hb
        have a0 := P.out.at_ 6 _ rfl
        have a1 := P.out.at_ 7 _ rfl
        have a2 := P.out.at_ 8 _ rfl
        go_wp2_with fail
        refine (dgreat_any _ _ _ _ _ _ (Hn.out 2 (by omega))).mono ?_
        rintro e w2 ⟨rfl, hb⟩
        rw [bool_of_dec h2.out]
        clear a0 a1 a2
        replace K := hid (K.out.trans (hb.out.mono K.out.size))
        replace P := hid (P.out.below hb.out P.out.lt)
        clear hb
        go_wp2
        go_ret
        exact ⟨true, rfl, ⟨fun _ => ⟨2, by omega, h2.out⟩, fun _ => rfl⟩, K.out⟩
      · replace h2 := hid h2
        by_cases h3 : 42 < (D 3).n ∨ 1100 < (D 3).x
        · replace h3 := hid h3
          go_enter Try.func5, Try.ntmps5
          go_upto_region 1 with fail
          rw [← HW.out]
          have a0 := P.out.at_ 0 _ rfl
          have a1 := P.out.at_ 1 _ rfl
          have a2 := P.out.at_ 2 _ rfl
          go_wp2_with fail
          refine (dgreat_any _ _ _ _ _ _ (Hn.out 0 (by omega))).mono ?_
          rintro e w0 ⟨rfl, hb⟩
          rw [bool_of_not h0.out]
          clear a0 a1 a2
          replace K := hid (K.out.trans (hb.out.mono K.out.size))
          replace P := hid (P.out.below hb.out P.out.lt)
          clear hb
          have a0 := P.out.at_ 3 _ rfl
          have a1 := P.out.at_ 4 _ rfl
          have a2 := P.out.at_ 5 _ rfl
          go_wp2_with fail
          refine (dgreat_any _ _ _ _ _ _ (Hn.out 1 (by omega))).mono ?_
          rintro e w1 ⟨rfl, hb⟩
          rw [bool_of_not h1.out]
          clear a0 a1 a2
          replace K := hid (K.out.trans (hb.out.mono K.out.size))
          replace P := hid (P.out.below hb.out P.out.lt)
          clear hb
          have a0 := P.out.at_ 6 _ rfl
          have a1 := P.out.at_ 7 _ rfl
          have a2 := P.out.at_ 8 _ rfl
          go_wp2_with fail
          refine (dgreat_any _ _ _ _ _ _ (Hn.out 2 (by omega))).mono ?_
          rintro e w2 ⟨rfl, hb⟩
          rw [bool_of_not h2.out]
          clear a0 a1 a2
          replace K := hid (K.out.trans (hb.out.mono K.out.size))
          replace P := hid (P.out.below hb.out P.out.lt)
          clear hb
          have a0 := P.out.at_ 9 _ rfl
          have a1 := P.out.at_ 10 _ rfl
          have a2 := P.out.at_ 11 _ rfl
          go_wp2_with fail
          refine (dgreat_any _ _ _ _ _ _ (Hn.out 3 (by omega))).mono ?_
          rintro e w3 ⟨rfl, hb⟩
          rw [bool_of_dec h3.out]
          clear a0 a1 a2
          replace K := hid (K.out.trans (hb.out.mono K.out.size))
          replace P := hid (P.out.below hb.out P.out.lt)
          clear hb
          go_wp2
          go_ret
          exact ⟨true, rfl, ⟨fun _ => ⟨3, by omega, h3.out⟩, fun _ => rfl⟩, K.out⟩
        · replace h3 := hid h3
          go_enter Try.func5, Try.ntmps5
          go_upto_region 1 with fail
          rw [← HW.out]
          have a0 := P.out.at_ 0 _ rfl
          have a1 := P.out.at_ 1 _ rfl
          have a2 := P.out.at_ 2 _ rfl
          go_wp2_with fail
          refine (dgreat_any _ _ _ _ _ _ (Hn.out 0 (by omega))).mono ?_
          rintro e w0 ⟨rfl, hb⟩
          rw [bool_of_not h0.out]
          clear a0 a1 a2
          replace K := hid (K.out.trans (hb.out.mono K.out.size))
          replace P := hid (P.out.below hb.out P.out.lt)
          clear hb
          have a0 := P.out.at_ 3 _ rfl
          have a1 := P.out.at_ 4 _ rfl
          have a2 := P.out.at_ 5 _ rfl
          go_wp2_with fail
          refine (dgreat_any _ _ _ _ _ _ (Hn.out 1 (by omega))).mono ?_
          rintro e w1 ⟨rfl, hb⟩
          rw [bool_of_not h1.out]
          clear a0 a1 a2
          replace K := hid (K.out.trans (hb.out.mono K.out.size))
          replace P := hid (P.out.below hb.out P.out.lt)
          clear hb
          have a0 := P.out.at_ 6 _ rfl
          have a1 := P.out.at_ 7 _ rfl
          have a2 := P.out.at_ 8 _ rfl
          go_wp2_with fail
          refine (dgreat_any _ _ _ _ _ _ (Hn.out 2 (by omega))).mono ?_
          rintro e w2 ⟨rfl, hb⟩
          rw [bool_of_not h2.out]
          clear a0 a1 a2
          replace K := hid (K.out.trans (hb.out.mono K.out.size))
          replace P := hid (P.out.below hb.out P.out.lt)
          clear hb
          have a0 := P.out.at_ 9 _ rfl
          have a1 := P.out.at_ 10 _ rfl
          have a2 := P.out.at_ 11 _ rfl
          go_wp2_with fail
          refine (dgreat_any _ _ _ _ _ _ (Hn.out 3 (by omega))).mono ?_
          rintro e w3 ⟨rfl, hb⟩
          rw [bool_of_not h3.out]
          clear a0 a1 a2
          replace K := hid (K.out.trans (hb.out.mono K.out.size))
          replace P := hid (P.out.below hb.out P.out.lt)
          clear hb
          go_wp2
          go_ret
          exact ⟨false, rfl, ⟨(fun h => by cases h), fun ⟨k, hk, hg⟩ => absurd hg (all_of4 (P := fun k => ¬ (42 < (D k).n ∨ 1100 < (D k).x)) h0.out h1.out h2.out h3.out k hk)⟩, K.out⟩

theorem okay_T {T : Int} (hT : (tp 4000 : Int) = T) (n : Int) (hn : -9223372036854775808 ≤ n ∧ n ≤ 9223372036854775807) : Okay (n * T) := by
  subst hT
  obtain ⟨s, V, hV, hs, hb⟩ : ∃ s V, num s V = n ∧ (V = 0 → s = false) ∧ V < pw 40 := by
    have hp : 18446744073709551616 ≤ pw 40 := Nat.le_trans (show 18446744073709551616 ≤ pw 2 by decide) (pw_mono (j := 2) (k := 40) (by omega))
    by_cases h0 : n < 0
    · exact ⟨true, (-n).toNat, by simp [num]; omega, fun h => by omega, by omega⟩
    · exact ⟨false, n.toNat, by simp [num]; omega, fun _ => rfl, by omega⟩
  refine ⟨s, V, 0, ⟨fun h => ⟨hs h, rfl⟩, fun h => absurd h (by omega)⟩, hb, by omega, ?_⟩
  unfold dv
  rw [num_mul, hV]
end Go.Proofs.Ytdcolnipdipkhaa


namespace Go.Proofs.Ytdcolnipdipkhaa.Fli
set_option maxRecDepth 100000
open Go.RowKit Go.Shelf Go.Lib

theorem pmd_eq {D E : Nat → Dy} : pmd D = pmd E ↔ ∀ j, j < 4 → Dsm (D j) (E j) := by
  have hd : ∀ d e : Dy, Dsm d e ↔ pdy d = pdy e := fun d e => by
    unfold Dsm pdy
    simp only [Prod.mk.injEq]
    constructor
    · rintro ⟨a1, a2, a3, a4⟩
      exact ⟨a1, a3, funext a4, a2⟩
    · rintro ⟨a1, a2, a3, a4⟩
      exact ⟨a1, a4, a2, fun j => congrFun a3 j⟩
  constructor
  · intro h j hj
    unfold pmd at h
    simp only [Prod.mk.injEq] at h
    obtain ⟨a0, a1, a2, a3⟩ := h
    have hc : j = 0 ∨ j = 1 ∨ j = 2 ∨ j = 3 := by omega
    rcases hc with rfl | rfl | rfl | rfl
    · exact (hd _ _).2 a0
    · exact (hd _ _).2 a1
    · exact (hd _ _).2 a2
    · exact (hd _ _).2 a3
  · intro h
    unfold pmd
    rw [(hd _ _).1 (h 0 (by omega)), (hd _ _).1 (h 1 (by omega)), (hd _ _).1 (h 2 (by omega)), (hd _ _).1 (h 3 (by omega))]
/-- What Great tells where it tells no. -/
def GrR (w : World) (l : List (Ld Pm)) (e : Ending) (w' : World) : Prop := ∃ r : Bool, e = .returned (.bool r) ∧ Hid (r = false → SzL l ∧ l.length ≤ 20) ∧ Hid (Below w.heap.size w w')
theorem sz_of {D : Nat → Dy} (h : ¬ MGr D) : SzM (pmd D) := by
  have hk : ∀ k, k < 4 → (D k).n ≤ 42 := fun k hk => by
    rcases Nat.lt_or_ge 42 (D k).n with h1 | h1
    · exact absurd ⟨k, hk, .inl h1⟩ h
    · exact h1
  exact ⟨hk 0 (by omega), hk 1 (by omega), hk 2 (by omega), hk 3 (by omega)⟩
set_option maxHeartbeats 3200000 in
theorem great_any {w : World} {B n c : Nat} {A : Option Addr} {l : List (Ld Pm)} (h : Lls w B A n c l) (hB : B ≤ w.heap.size) :
    Calls Try.prog 4 #[.slice A n c] w (GrR w l) := by
  have H := hid (h.mono hB)
  have hm := h.max
  have hcap := h.cap
  have HL := hid h.len
  clear h
  by_cases hn : (n : Int) > 20
  · go_enter Try.func4, Try.ntmps4
    go_wp2
    go_ret
    exact ⟨true, rfl, hid (fun h => (by cases h)), hid (Below.refl _ _)⟩
  have hn20 : n ≤ 20 := by omega
  go_enter Try.func4, Try.ntmps4
  go_wp2
  go_loopg [3] n (fun gg s3 wr => ∃ kk : Nat, kk ≤ n ∧ n - kk ≤ gg ∧ s3 = .int .i64 kk ∧ Hid (Below w.heap.size w wr) ∧ Hid (∀ p ∈ l.take kk, SzM p.2.2.2))
  case atStart => exact ⟨0, Nat.zero_le _, by omega, rfl, hid (Below.refl _ w), hid (by simp)⟩
  case round =>
    obtain ⟨kk, hkk, hg, rfl, BW, HA⟩ := hrel
    by_cases hlt : kk < n
    · have hltz : (kk : Int) < (n : Int) := by omega
      obtain ⟨b, off, r, p, rfl, hb, hp, hr, hc⟩ := (H.out.below BW.out).get hlt
      obtain ⟨x, y, z, R⟩ := r
      have HX := hid (show wr.rangeAt b (off + kk * 15 + 3) (mcells R).toList from fun t v hv => by
        have := hc (3 + t) v (by
          rw [show encL (x, y, z, R) = [.int .i64 x, .int .i64 y, .int .i64 z] ++ (mcells R).toList from rfl, List.getElem?_append_right (by simp)]
          simpa using hv)
        rw [show off + kk * 15 + 3 + t = off + (kk * 15 + (3 + t)) by omega]
        exact this)
      have HM := hid (mgreat_any (w := wr) (D := R) (fun k hk => (hr.rd k hk).max))
      have HP := hid hp
      have HPl := hid (show p.2.2.2 = pmd R from hr.pl.symm)
      clear hr hp hc
      go_wp2_with (first | (refine wp_lm rfl (.tmp 16) rfl b (off + kk * 15 + 3) R rfl HX.out ?_) | fail)
      refine HM.out.mono ?_
      rintro e w1 ⟨t, rfl, H1, H2⟩
      have B1 := hid (gbelow_on BW.out (Nat.le_refl _) H2.out)
      cases t
      · have HS := hid (sz_of (fun hm => absurd (H1.out.2 hm) (by decide)))
        go_wp2
        go_roundg (n - (kk + 1))
        case measure => omega
        case rel =>
          refine ⟨kk + 1, by omega, by omega, by go_num, B1, hid (fun q hq => ?_)⟩
          rw [take_ld HP.out] at hq
          rcases List.mem_append.1 hq with h1 | h1
          · exact HA.out q h1
          · obtain rfl : q = p := by simpa using h1
            rw [HPl.out]
            exact HS.out
      · go_wp2
        go_ret
        exact ⟨true, rfl, hid (fun h => (by cases h)), B1⟩
    · have hltz : ¬ (kk : Int) < (n : Int) := by omega
      obtain rfl : kk = n := by omega
      have HS := hid (show SzL l ∧ l.length ≤ 20 from ⟨⟨by rw [HL.out]; omega, by have := HA.out; rwa [List.take_of_length_le (by rw [HL.out]; exact Nat.le_refl _)] at this⟩, by rw [HL.out]; exact hn20⟩)
      go_wp2
      go_ret
      exact ⟨false, rfl, hid (fun _ => HS.out), BW⟩

theorem KeepS.low {S : Nat → Prop} {B : Nat} {w w' : World} {r : Lr} {p : Ld Pm} (k : KeepS S w w') (h : Low B w r p) (hn : ∀ q, B ≤ q → q < w.heap.size → ¬ S q) : Low B w' r p :=
  h.keep fun g _ hg hc => k.block g (lt_of_heap hc) (hn g hg (lt_of_heap hc))
theorem KeepS.lof {S : Nat → Prop} {B : Nat} {w w' : World} {v : Value} {rs : List Lr} {l : List (Ld Pm)} (k : KeepS S w w') (h : Lof B w v rs l) (hn : ∀ q, B ≤ q → q < w.heap.size → ¬ S q) : Lof B w' v rs l := by
  refine ⟨?_, h.pair.keep fun g _ hg hc => k.block g (lt_of_heap hc) (hn g hg (lt_of_heap hc))⟩
  obtain ⟨⟨hl, hor⟩, hm⟩ := h.row
  refine ⟨⟨hl, ?_⟩, hm⟩
  rcases hor with h0 | ⟨g, cap, cur, h1, h2, h3, h4⟩
  · exact .inl h0
  · exact .inr ⟨g, cap, cur, h1, h2, (k.block g (lt_of_heap h3) (hn g h2 (lt_of_heap h3))).trans h3, h4⟩
theorem Low.slo {B : Nat} {w : World} {r : Lr} {p : Ld Pm} {S : Nat → Prop} (h : Low B w r p) {k : Nat} (hk : k < 4) (hS : ∀ g o, (r.2.2.2 k).A = some ⟨g, o, none⟩ → B ≤ g → S g) : Slo S w (r.2.2.2 k) := fun h0 => by
  have hm := h.lim k hk
  rcases hm.own with ⟨_, h1, _⟩ | ⟨g, cs, hA, hg, hc, hs, _⟩
  · omega
  · exact ⟨g, cs, hA, hS g 0 hA hg, hc, Nat.le_trans hm.cap hs⟩
theorem Low.lims {B : Nat} {w : World} {r : Lr} {p : Ld Pm} (h : Low B w r p) : ∀ k, k < 4 → (r.2.2.2 k).n ≤ 140737488355328 ∧ (r.2.2.2 k).n ≤ (r.2.2.2 k).c := fun k hk => ⟨(h.lim k hk).max, (h.lim k hk).cap⟩
/-- Spoil, of loads that own what they hold. -/
theorem spoil_lof {w : World} {B C : Nat} {v : Value} {rs : List Lr} {l : List (Ld Pm)} (h : Lof B w v rs l) (ha : AheadL C v rs) :
    Calls Try.prog 20 #[v] w fun e w' => e = .returned (.tuple #[]) ∧ Hid (KeepS (fun q => B ≤ q ∧ q < C) w w') := by
  rcases Nat.eq_zero_or_pos l.length with h0 | h0
  · obtain ⟨A, c, e, _⟩ := h.form
    rw [e, h0]
    exact spl_none
  obtain ⟨g, c, cur, e, hg, hc, hB, hs, hm⟩ := h.blk h0
  have hlen := h.pair.1
  have hgC : g < C := ha.1 g (by rw [e]; rfl)
  obtain ⟨A', c', e', hl⟩ := h.form
  rw [e] at e'
  injection e' with e1 _ e3
  subst e1 e3
  subst e
  have hlow : ∀ (j : Nat) (r : Lr), rs[j]? = some r → ∃ p, Low B w r p := fun j r hr => by
    have hj : j < l.length := by rw [← hlen]; exact (List.getElem?_eq_some_iff.1 hr).1
    exact ⟨l[j], h.pair.2 j r _ hr (List.getElem?_eq_getElem hj)⟩
  obtain ⟨A2, c2, e2, hgs, _⟩ := h.row.form
  injection e2 with e4 _ e5
  subst e4 e5
  obtain ⟨b, off, e6, hb, hcell⟩ := hgs.at_ h0
  injection e6 with e6
  injection e6 with e7 e8
  subst e7 e8
  refine spl_on (rs := rs) (S := fun q => B ≤ q ∧ q < C) (hid ⟨⟨cur, hg, by rw [hs]; exact Nat.mul_le_mul_right _ hc, fun j r hr => ?_⟩, fun r hr => ?_, KeepS.refl _ _⟩) (hid hlen) ⟨hB, hgC⟩ hc hm (hid fun j r hr k hk => ?_)
  · have a := hcell _ _ (cellsL_get hr 4 _ rfl)
    have b := hcell _ _ (cellsL_get hr 13 _ rfl)
    rw [Nat.zero_add, cell_of_row w g _ cur _ (0, 0) hg] at a b
    exact ⟨a, b⟩
  · obtain ⟨j, hj⟩ := List.mem_iff_getElem?.1 hr
    obtain ⟨p, hp⟩ := hlow j r hj
    exact ⟨hp.slo (by omega) (fun g o hA hg => ⟨hg, ha.2 r hr 0 (by omega) g o hA⟩), hp.slo (by omega) (fun g o hA hg => ⟨hg, ha.2 r hr 3 (by omega) g o hA⟩)⟩
  · obtain ⟨p, hp⟩ := hlow j r hr
    exact hp.lims k hk
/-- Spoil, of one load in a slice of its own. -/
theorem spoil_one {w : World} {B C g : Nat} {x y z : Int} {M : Nat → Dy} {p : Ld Pm} (h : Low B w (x, y, z, M) p) (hC : ∀ k, k < 4 → ∀ g o, (M k).A = some ⟨g, o, none⟩ → g < C) (hg : w.heap[g]? = some (.cells (lcells x y z M) 40 (0, 0))) :
    Calls Try.prog 20 #[.slice (some ⟨g, 0, none⟩) 1 1] w fun e w' => e = .returned (.tuple #[]) ∧ Hid (KeepS (fun q => (B ≤ q ∧ q < C) ∨ q = g) w w') := by
  refine spl_on (rs := [(x, y, z, M)]) (S := fun q => (B ≤ q ∧ q < C) ∨ q = g) (hid ⟨⟨_, hg, Nat.le_refl _, fun j r hr => ?_⟩, fun r hr => ?_, KeepS.refl _ _⟩) (hid rfl) (.inr rfl) (Nat.le_refl _) (by omega) (hid fun j r hr k hk => ?_)
  · match j, hr with
    | 0, hr =>
      injection hr with hr
      subst hr
      exact ⟨rfl, rfl⟩
    | j + 1, hr => simp at hr
  · obtain rfl : r = (x, y, z, M) := by simpa using hr
    exact ⟨h.slo (by omega) (fun g o hA hg => .inl ⟨hg, hC 0 (by omega) g o hA⟩), h.slo (by omega) (fun g o hA hg => .inl ⟨hg, hC 3 (by omega) g o hA⟩)⟩
  · obtain rfl : r = (x, y, z, M) := by simpa using List.mem_of_getElem? hr
    exact h.lims k hk
theorem Low.ahead {B : Nat} {w : World} {r : Lr} {p : Ld Pm} (h : Low B w r p) : ∀ k, k < 4 → ∀ g o, (r.2.2.2 k).A = some ⟨g, o, none⟩ → g < w.heap.size := fun k hk g o e => by
  rcases (h.lim k hk).own with ⟨h0, _⟩ | ⟨b, cs, hA, _, hc, _⟩
  · rw [h0] at e; cases e
  · rw [hA] at e
    injection e with e
    injection e with e1 e2
    subst e1
    exact lt_of_heap hc
end Go.Proofs.Ytdcolnipdipkhaa.Fli

