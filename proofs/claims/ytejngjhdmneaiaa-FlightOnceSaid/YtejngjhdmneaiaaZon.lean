/- Flight: what was launched comes down just once. -/
import Derived.Test.YtejngjhdmneaiaaVaq
import Derived.Test.YtejngjhdmneaiaaZfr
namespace Go.Proofs.Ytejngjhdmneaiaa.Fli
set_option maxRecDepth 100000
open Go.RowKit Go.Shelf Go.Lib

theorem lnE_zero {l : List (Ld Pm)} {n ep : Int} {g : Pm} (h : lnE l n ep g = 0) : askE l n = 0 ∧ (0 ≤ ep ∧ ep ≤ 65535) ∧ MayM g ∧ fnd n l = none ∧ l.length ≠ 16 := by
  by_cases h0 : askE l n = 0
  case neg => rw [lnE_ask h0] at h; exact absurd h h0
  by_cases h1 : 0 ≤ ep ∧ ep ≤ 65535
  case neg => rw [lnE_ep h0 h1] at h; exact absurd h (by decide)
  by_cases h2 : MayM g
  case neg => rw [lnE_bad h0 h1 h2] at h; exact absurd h (by decide)
  by_cases h3 : fnd n l = none
  case neg => rw [lnE_again h0 h1 h2 h3] at h; exact absurd h (by decide)
  by_cases h4 : l.length = 16
  case pos => rw [lnE_full h0 h1 h2 h3 h4] at h; exact absurd h (by decide)
  exact ⟨h0, h1, h2, h3, h4⟩
/-- What may be launched into loads. -/
structure Lau (l : List (Ld Pm)) (n ep : Int) (g : Pm) : Prop where
  chk : lchk MayM l
  num : 0 ≤ n ∧ n ≤ 1048575
  ep : 0 ≤ ep ∧ ep ≤ 65535
  may : MayM g
  no : fnd n l = none
  room : l.length < 16
theorem lau_of {l : List (Ld Pm)} {n ep : Int} {g : Pm} (h : lnE l n ep g = 0) : Lau l n ep g := by
  obtain ⟨h0, h1, h2, h3, h4⟩ := lnE_zero h
  obtain ⟨k1, k2⟩ := askE_zero.1 h0
  exact ⟨k1, k2, h1, h2, h3, by have := k1.1; omega⟩
/-- How it stands: none came down, and the load has so many copies; or it came down, and the loads are as they were. -/
def St (l : List (Ld Pm)) (n ep : Int) (g : Pm) (c b : Nat) (now : List (Ld Pm)) : Prop := (b = 0 ∧ 1 ≤ c ∧ now = ins (n, ep, (c : Int), g) l) ∨ (b = 1 ∧ now = l)
section
variable {l now : List (Ld Pm)} {n ep : Int} {g : Pm} {c b : Nat}
theorem Lau.ne (h : Lau l n ep g) : ∀ y ∈ l, y.1 ≠ n := fun y hy e => by
  have := h.no
  unfold fnd at this
  exact absurd (List.find?_eq_none.1 this y hy) (by simpa using e)
theorem Lau.chk2 (h : Lau l n ep g) (hc : 1 ≤ c ∧ c ≤ 16) : lchk MayM (ins (n, ep, (c : Int), g) l) := ins_may h.chk ⟨h.num, h.ep, by show 1 ≤ (c : Int) ∧ (c : Int) ≤ 16; omega, h.may⟩ h.ne h.room
theorem Lau.ask2 (h : Lau l n ep g) (hc : 1 ≤ c ∧ c ≤ 16) : askE (ins (n, ep, (c : Int), g) l) n = 0 := askE_zero.2 ⟨h.chk2 hc, h.num⟩
theorem Lau.fnd2 (h : Lau l n ep g) : fnd n (ins (n, ep, (c : Int), g) l) = some (n, ep, (c : Int), g) := fnd_ins (x := (n, ep, (c : Int), g)) h.ne
theorem Lau.asked (h : Lau l n ep g) : askE l n = 0 := askE_zero.2 ⟨h.chk, h.num⟩
/-- Where it came down, an act does nothing. -/
theorem Lau.away (h : Lau l n ep g) (f : Nat) : tE l n f = 0 ∧ tL l n f = l ∧ tX l n f = p0 := by
  have e : tE l n f = 0 := by unfold tE turnE; rw [if_pos h.asked, h.no]
  refine ⟨e, ?_, ?_⟩
  · unfold tL turnL; rw [if_pos e, h.no]
  · unfold tX turnX; rw [if_pos e, h.no]; rfl
theorem st_double (h : Lau l n ep g) (hs : St l n ep g c b now) (hc : c < 16) : tE now n 0 = 0 ∧ St l n ep g (c + 1) b (tL now n 0) := by
  rcases hs with ⟨rfl, h1, rfl⟩ | ⟨rfl, rfl⟩
  · have hne : ¬ (c : Int) = 16 := by omega
    have e : tE (ins (n, ep, (c : Int), g) l) n 0 = 0 := by
      unfold tE turnE
      rw [if_pos (h.ask2 ⟨h1, by omega⟩), h.fnd2]
      show (if 0 = 0 then (if (c : Int) = 16 then (9 : Int) else 0) else 0) = 0
      rw [if_pos rfl, if_neg hne]
    refine ⟨e, .inl ⟨rfl, by omega, ?_⟩⟩
    unfold tL turnL
    rw [if_pos e, h.fnd2]
    show (if 0 = 0 then (if (c : Int) = 16 then [] else cpy n (fun c => c + 1) (ins (n, ep, (c : Int), g) l)) else _) = _
    rw [if_pos rfl, if_neg hne]
    exact cpy_ins (x := (n, ep, (c : Int), g)) h.ne (fun c => c + 1)
  · obtain ⟨e1, e2, _⟩ := h.away 0
    exact ⟨e1, .inr ⟨rfl, e2⟩⟩
/-- What a copy that is lost, or lands, brings. -/
theorem st_down (h : Lau l n ep g) (hs : St l n ep g c b now) (hc : 1 ≤ c ∧ c ≤ 16) (f : Nat) (hf : f = 1 ∨ f = 2) :
    tE now n f = 0 ∧ ((tX now n f = p0 ∧ St l n ep g (c - 1) b (tL now n f)) ∨ (∃ k : Int, 1 ≤ k ∧ tX now n f = (n, ep, k, g) ∧ b = 0 ∧ St l n ep g (c - 1) 1 (tL now n f))) := by
  rcases hs with ⟨rfl, h1, rfl⟩ | ⟨rfl, rfl⟩
  · have hfd := h.fnd2 (c := c)
    have hdel : del n (ins (n, ep, (c : Int), g) l) = l := del_ins (x := (n, ep, (c : Int), g)) h.ne
    have e : tE (ins (n, ep, (c : Int), g) l) n f = 0 := by
      unfold tE turnE
      rw [if_pos (h.ask2 hc), hfd]
      rcases hf with rfl | rfl <;> rfl
    refine ⟨e, ?_⟩
    rcases hf with rfl | rfl
    · by_cases h2 : 1 < (c : Int)
      · refine .inl ⟨?_, .inl ⟨rfl, by omega, ?_⟩⟩
        · unfold tX turnX
          rw [if_pos e, hfd]
          show Option.getD (if 1 = 0 then none else if 1 = 1 then (if 1 < (c : Int) then none else some _) else some _) p0 = p0
          rw [if_neg (by decide), if_pos rfl, if_pos h2]
          rfl
        · unfold tL turnL
          rw [if_pos e, hfd]
          show (if 1 = 0 then _ else if 1 = 1 then (if 1 < (c : Int) then cpy n (fun c => c - 1) (ins (n, ep, (c : Int), g) l) else del n (ins (n, ep, (c : Int), g) l)) else _) = _
          rw [if_neg (by decide), if_pos rfl, if_pos h2, cpy_ins (x := (n, ep, (c : Int), g)) h.ne (fun c => c - 1)]
          show ins (n, ep, (c : Int) - 1, g) l = _
          rw [show (c : Int) - 1 = ((c - 1 : Nat) : Int) by omega]
      · refine .inr ⟨(c : Int), by omega, ?_, rfl, .inr ⟨rfl, ?_⟩⟩
        · unfold tX turnX
          rw [if_pos e, hfd]
          show Option.getD (if 1 = 0 then none else if 1 = 1 then (if 1 < (c : Int) then none else some _) else some _) p0 = _
          rw [if_neg (by decide), if_pos rfl, if_neg h2]
          rfl
        · unfold tL turnL
          rw [if_pos e, hfd]
          show (if 1 = 0 then _ else if 1 = 1 then (if 1 < (c : Int) then cpy n (fun c => c - 1) (ins (n, ep, (c : Int), g) l) else del n (ins (n, ep, (c : Int), g) l)) else _) = _
          rw [if_neg (by decide), if_pos rfl, if_neg h2, hdel]
    · refine .inr ⟨(c : Int), by omega, ?_, rfl, .inr ⟨rfl, ?_⟩⟩
      · unfold tX turnX
        rw [if_pos e, hfd]
        rfl
      · unfold tL turnL
        rw [if_pos e, hfd]
        show del n (ins (n, ep, (c : Int), g) l) = _
        exact hdel
  · obtain ⟨e1, e2, e3⟩ := h.away f
    exact ⟨e1, .inl ⟨e3, .inr ⟨rfl, e2⟩⟩⟩
theorem szl_st (h : SzL l) (hl : l.length < 16) (hg : SzM g) (hs : St l n ep g c b now) : SzL now := by
  rcases hs with ⟨_, _, rfl⟩ | ⟨_, rfl⟩
  · exact h.ins hg (by omega)
  · exact h
end
theorem wp_llg {ops : Array Oper} {rest : List Oper} {o : Oper} {a : Act} {w : World} {Q : Exit → Act → World → Prop} (hw : Region.wanted o (yielded ops a.tmps) = true) (p : Operand) (ho : o.op = .load 40 p)
    (b off : Nat) (x y z : Int) (D : Nat → Dy) (hx : a.eval p = .pointer (some ⟨b, off, none⟩)) (hg : w.rangeAt b off (lcells x y z D).toList) (h : wpList Try.prog ops Q rest (a.put o.dst (.agg (lcells x y z D))) w) : wpList Try.prog ops Q (o :: rest) a w :=
  wpList_step fun _ hK => by
    rw [if_pos hw]
    exact wp_load_mid _ p ho b off hx (lcells x y z D).toList _ hg Try.underlying40 rfl (load_size_ x y z D) (hK _ _ h)
theorem bcell {w : World} {B m d i : Nat} {D : Option Addr} {ts : List Nat} (h : Gs w B D m d 1 (cellsB ts)) (hi : i < m) : ∃ b off t, D = some ⟨b, off, none⟩ ∧ b < B ∧ w.cell? ⟨b, off + i, none⟩ = some (.int .u8 ((t : Nat) : Int)) := by
  obtain ⟨b, off, rfl, hb, hc⟩ := h.at_ (by omega)
  have hl : ts.length = m := by have := h.len; rw [cellsB_length] at this; omega
  exact ⟨b, off, ts[i]'(by omega), rfl, hb, hc i _ (cellsB_get (List.getElem?_eq_getElem (by omega)))⟩
theorem Lof.lls {B n c : Nat} {w : World} {A : Option Addr} {rs : List Lr} {l : List (Ld Pm)} (h : Lof B w (.slice A n c) rs l) : Lls w w.heap.size A n c l := by
  obtain ⟨A', c', e, hl⟩ := h.form
  injection e with e1 e2 e3
  subst e1 e2 e3
  exact hl
set_option maxHeartbeats 16000000 in
theorem fonce_walk {w : World} {a c m d : Nat} {A D : Option Addr} {l : List (Ld Pm)} {n ep : Int} {M : Nat → Dy} {ts : List Nat} (h : Lls w w.heap.size A a c l) (_hn : -9223372036854775808 ≤ n ∧ n ≤ 9223372036854775807) (_he : -9223372036854775808 ≤ ep ∧ ep ≤ 9223372036854775807) (hM : Mrd w w.heap.size M) (hnil : ∀ k, k < 4 → (M k).A = none → (M k).n = 0 ∧ (M k).c = 0) (ht : Gs w w.heap.size D m d 1 (cellsB ts) ∧ ∀ b ∈ ts, b < 256) :
    Calls Try.prog 4 #[.slice A a c, .int .i64 n, .int .i64 ep, .agg (mcells M), .slice D m d] w fun e w' => e = .returned (.bool true) ∧ Below w.heap.size w w' := by
  obtain ⟨W, hW⟩ : ∃ W, W = w.alloc (.cells (mcells M) 27) := ⟨_, rfl⟩
  have B0 := hid (show Below w.heap.size w W from hW ▸ (Below.refl _ w).alloc (Nat.le_refl _) _)
  have N0 := hid (show Mbox W w.heap.size M from hW ▸ heap_alloc_new w _)
  have HW := hid hW
  have H := hid h
  have HM := hid hM
  have HNL := hid hnil
  have HT := hid ht.1
  have hmt := ht.1.max
  have hct := ht.1.cap
  clear hW h hM hnil ht
  go_enter Try.func4, Try.ntmps4
  go_upto_region 1 with fail
  rw [← HW.out]
  go_wp2_with fail
  refine (alive_any _).mono ?_
  rintro e w1 ⟨rfl, H1⟩
  have B1 := hid (gbelow_on B0.out (Nat.le_refl _) H1.out)
  have K1 := hid (H.out.on (Nat.le_refl _) B1.out)
  go_wp2_with fail
  refine (great_any K1.out (Nat.le_refl _)).mono ?_
  rintro e w2 ⟨r, rfl, H2, H3⟩
  have B2 := hid (gbelow_on B1.out (Nat.le_refl _) H3.out)
  cases r
  case true =>
    go_wp2
    go_ret
    exact ⟨rfl, B2.out⟩
  have HZ := hid (H2.out rfl).1
  clear H2
  have N2 := hid (show Mbox w2 w.heap.size M from (N0.out.below H1.out N0.out.lt).below H3.out (Nat.lt_of_lt_of_le N0.out.lt H1.out.size))
  have n2 := mbox_row N2.out
  have CG := hid (mgreat_any (w := w2) (D := M) (fun j hj => (HM.out j hj).max))
  go_wp2_with (first | (refine wp_lmg rfl (.tmp 8) rfl w.heap.size 0 M rfl n2 ?_) | fail)
  refine CG.out.mono ?_
  rintro e w3 ⟨r, rfl, H4, H5⟩
  have B3 := hid (gbelow_on B2.out (Nat.le_refl _) H5.out)
  clear n2 CG
  cases r
  case true =>
    go_wp2
    go_ret
    exact ⟨rfl, B3.out⟩
  have HZM := hid (sz_of (D := M) (fun hm => absurd (H4.out.2 hm) (by decide)))
  clear H4
  by_cases h60 : (m : Int) > 60
  · go_wp2
    go_ret
    exact ⟨rfl, B3.out⟩
  have hm60 : m ≤ 60 := by omega
  have N3 := hid (show Mbox w3 w.heap.size M from N2.out.below H5.out N2.out.lt)
  have n3 := mbox_row N3.out
  have CL := hid (launch_any (w := w3) (n := n) (ep := ep) (M := M) (H.out.below B3.out) (fun j hj => (HM.out j hj).below B3.out) HNL.out B3.out.size HZ.out HZM.out)
  go_wp2_with (first | (refine wp_lm rfl (.tmp 8) rfl w.heap.size 0 M rfl n3 ?_) | fail)
  refine CL.out.mono ?_
  rintro e w4 ⟨v4, rs4, rfl, H6⟩
  have B4 := hid (gbelow_on B3.out (Nat.le_refl _) H6.out.2)
  have N4 := hid (show Mbox w4 w.heap.size M from N3.out.below H6.out.2 N3.out.lt)
  clear n3 CL
  by_cases h0 : lnE l n ep (pmd M) = 0
  case neg =>
    have hL : lnL l n ep (pmd M) = [] := by unfold lnL; rw [if_neg h0]
    obtain ⟨q, hq⟩ : ∃ q, q = lnE l n ep (pmd M) := ⟨_, rfl⟩
    rw [← hq] at h0
    rw [← hq]
    have hne : ¬ q = 0 := h0
    rw [hL] at H6
    obtain ⟨A4, c4, rfl, hx⟩ := H6.out.1.form0
    clear hL hq hx H6 h0
    go_wp2
    go_ret
    exact ⟨rfl, B4.out⟩
  have HLA := hid (lau_of h0)
  rw [h0]
  have hL : lnL l n ep (pmd M) = ins (n, ep, ((1 : Nat) : Int), pmd M) l := by unfold lnL; rw [if_pos h0]; rfl
  rw [hL] at H6
  obtain ⟨A4, c4, rfl, hx⟩ := H6.out.1.form
  have X4 := hid hx
  have S4 := hid (show St l n ep (pmd M) 1 0 (ins (n, ep, ((1 : Nat) : Int), pmd M) l) from .inl ⟨rfl, Nat.le_refl _, rfl⟩)
  clear hL hx H6 h0
  generalize ins (n, ep, ((1 : Nat) : Int), pmd M) l = now4 at *
  go_wp2
  go_loopg [12, 14, 15, 16] (m + 60) (fun gg s12 s14 s15 s16 wr => ∃ (i k b : Nat) (A' : Option Addr) (c' : Nat) (now : List (Ld Pm)), i ≤ m + 60 ∧ m + 60 - i ≤ gg ∧ s16 = .int .i64 (i : Int) ∧ s14 = .int .i64 (k : Int) ∧ s15 = .int .i64 (b : Int) ∧ s12 = .slice A' now.length c' ∧ Hid (Lls wr wr.heap.size A' now.length c' now) ∧ Hid (St l n ep (pmd M) k b now) ∧ Hid (Below w.heap.size w wr) ∧ Hid (k ≤ 16 ∧ (m ≤ i → k + (i - m) ≤ 16)) ∧ Hid (Mbox wr w.heap.size M))
  case atStart => exact ⟨0, 1, 0, A4, c4, now4, Nat.zero_le _, by omega, rfl, rfl, rfl, rfl, X4, S4, B4, hid ⟨by omega, fun _ => by omega⟩, N4⟩
  case round =>
    clear X4 S4 N0 N2 N3 N4 K1 B0 B1 B2 B3
    obtain ⟨i, k, b, A', c', now, hi, hg, rfl, rfl, rfl, rfl, HN, HS, BW, HB, MB0⟩ := hrel
    by_cases hk0 : k = 0
    · subst hk0
      have hk : ¬ ((0 : Nat) : Int) > 0 := by omega
      obtain ⟨rfl, rfl⟩ : b = 1 ∧ now = l := by
        rcases HS.out with ⟨_, h1, _⟩ | h1
        · omega
        · exact h1
      have CS := hid (psame_any (w := wr) HN.out (H.out.below BW.out) (Nat.le_refl _) BW.out.size)
      by_cases hlt : (i : Int) < (m : Int) + 60
      · go_wp2_with fail
        refine CS.out.mono ?_
        rintro e u1 ⟨r, rfl, h1, h2⟩
        have BU := hid (gbelow_on BW.out (Nat.le_refl _) h2.out)
        obtain rfl : r = true := h1.out.2 (by trivial)
        go_wp2
        go_ret
        exact ⟨rfl, BU.out⟩
      · go_wp2_with fail
        refine CS.out.mono ?_
        rintro e u1 ⟨r, rfl, h1, h2⟩
        have BU := hid (gbelow_on BW.out (Nat.le_refl _) h2.out)
        obtain rfl : r = true := h1.out.2 (by trivial)
        go_wp2
        go_ret
        exact ⟨rfl, BU.out⟩
    have hk : (k : Int) > 0 := by omega
    have hlt : (i : Int) < (m : Int) + 60 := by have := HB.out; omega
    have hk16 := HB.out.1
    have XA := hid (Lbx.new wr 0 0 0 D0)
    have AL := hid ((Below.refl _ wr).alloc (Nat.le_refl wr.heap.size) (.cells (lcells 0 0 0 D0) 40))
    by_cases him : i < m
    · have himz : (i : Int) < (m : Int) := by omega
      obtain ⟨tb, tof, t, rfl, htb, htc⟩ := bcell (HT.out.below BW.out) him
      by_cases t0 : (t : Int) = 0
      · rw [t0] at htc
        have htA := fun o => Lib.cell?_alloc_some (W := wr) o htc
        clear htc
        by_cases h16 : (k : Int) = 16
        · have HB2 := hid (show k ≤ 16 ∧ (m ≤ i + 1 → k + (i + 1 - m) ≤ 16) by omega)
          go_wp2
          go_roundg (m + 60 - (i + 1))
          case measure => omega
          case rel => exact ⟨i + 1, k, b, A', c', now, by omega, by omega, by go_num, rfl, rfl, rfl, hid (HN.out.on (Nat.le_refl _) AL.out), HS, hid (gbelow_on BW.out (Nat.le_refl _) AL.out), HB2, hid (show Mbox _ w.heap.size M from MB0.out.below AL.out MB0.out.lt)⟩
        · have hk15 : k < 16 := by omega
          have hc16 : ¬ (k : Int) = 16 := by omega
          have CL := hid (double_any (w := wr.alloc (.cells (lcells 0 0 0 D0) 40)) n (HN.out.on (Nat.le_refl _) AL.out) (Nat.le_refl _) (szl_st HZ.out HLA.out.room HZM.out HS.out))
          obtain ⟨HE, HD⟩ := st_double HLA.out HS.out (show k < 16 by have := HB.out.1; omega)
          rw [HE] at CL
          have S2 := hid HD
          clear HE HD
          go_wp2_with fail
          refine CL.out.mono ?_
          rintro e w5 ⟨v5, rs5, rfl, H5⟩
          obtain ⟨A2, c2, rfl, hL5⟩ := H5.out.1.form
          have L2 := hid hL5
          have B5 := hid (gbelow_on AL.out (Nat.le_refl _) H5.out.2)
          have B2 := hid (gbelow_on BW.out (Nat.le_refl _) B5.out)
          have XB := hid (XA.out.below H5.out.2 XA.out.lt)
          have MB := hid (MB0.out.below B5.out MB0.out.lt)
          clear hL5 CL H5
          obtain ⟨x, hx⟩ : ∃ x : Int, x = 0 := ⟨0, rfl⟩
          obtain ⟨y, hy⟩ : ∃ y : Int, y = 0 := ⟨0, rfl⟩
          obtain ⟨z, hz⟩ : ∃ z : Int, z = 0 := ⟨0, rfl⟩
          obtain ⟨R, hR⟩ : ∃ R, R = D0 := ⟨_, rfl⟩
          have XB := hid (show Lbx w5 wr.heap.size x y z R by rw [hx, hy, hz, hR]; exact XB.out)
          have CN := hid (fun (X : World) (hX : Below w5.heap.size w5 X) => says_bool (none_any (w := X) (x := x) (y := y) (z := z) (M := R) (fun j hj => by rw [hR]; exact Rd.nil _ _)) true ⟨fun _ => by rw [hx, hy, hz, hR]; rfl, fun _ => rfl⟩)
          clear hx hy hz hR
          have xr := lbx_row XB.out
          go_wp2_with (first | (refine wp_llg (by kernel_rfl) (.tmp 17) (by with_reducible rfl) wr.heap.size 0 x y z R (by rfl) xr ?_) | fail)
          refine (CN.out _ (Below.refl _ _)).mono ?_
          rintro e u1 ⟨rfl, hu1⟩
          have xr1 := lbx_row (XB.out.below hu1.out XB.out.lt)
          have U1 := hid hu1.out
          clear hu1 xr
          go_upto_region 24 with fail
          go_wp2_with (first | (refine wp_lload (by rfl) (.tmp 17) (by with_reducible rfl) wr.heap.size 0 x y z R (by rfl) xr1 ?_) | fail)
          refine (CN.out _ U1.out).mono ?_
          rintro e u2 ⟨rfl, hu2⟩
          have U2 := hid (gbelow_on U1.out (Nat.le_refl _) hu2.out)
          clear hu2 xr1
          go_wp2
          go_roundg (m + 60 - (i + 1))
          case measure => omega
          case rel => exact ⟨i + 1, k + 1, b, A2, c2, _, by omega, by omega, by go_num, by go_num, by go_num, rfl, hid (L2.out.on (Nat.le_refl _) U2.out), S2, hid (gbelow_on B2.out (Nat.le_refl _) U2.out), hid (by have := HB.out; omega), hid (show Mbox _ w.heap.size M from MB.out.below U2.out MB.out.lt)⟩
      by_cases t1 : (t : Int) = 1
      · rw [t1] at htc
        have htA := fun o => Lib.cell?_alloc_some (W := wr) o htc
        clear t0 htc
        have CL := hid (lose_any (w := wr.alloc (.cells (lcells 0 0 0 D0) 40)) n (HN.out.on (Nat.le_refl _) AL.out) (Nat.le_refl _) (szl_st HZ.out HLA.out.room HZM.out HS.out))
        obtain ⟨HE, HD⟩ := st_down HLA.out HS.out ⟨by omega, HB.out.1⟩ 1 (by simp)
        rw [HE] at CL
        have HD := hid HD
        clear HE
        go_wp2_with fail
        refine CL.out.mono ?_
        rintro e w5 ⟨v5, rs5, ⟨x, y, z, R⟩, mid, rfl, H5⟩
        obtain ⟨A2, c2, rfl, hL5⟩ := H5.out.1.form
        have LF5 := hid H5.out.1
        have X5 := hid (XA.out.below H5.out.2.1 XA.out.lt)
        have R5 := hid H5.out.2.2.1
        have M5 := hid H5.out.2.2.2.2
        have B5 := hid H5.out.2.1
        clear hL5 CL H5
        rcases HD.out with ⟨hX, hS⟩ | ⟨k', hk', hX, hb0, hS⟩
        · have S2 := hid hS
          rw [hX] at R5
          clear hX hS HD
          go_upto_region 22 with (first
            | (refine gput_row (P := Try.prog) (by rfl) _ (.tmp 17) (.tmp 100) (by with_reducible rfl) wr.heap.size 40 _ (lcells x y z R) (by rfl) (by rfl) X5.out rfl (loadSize x y z R) (lcells_one x y z R) ?_
               intro w6 x6 q6
               have XB := hid (show Lbx w6 wr.heap.size x y z R from x6)
               have xr := lbx_row XB.out
               have hlt := XA.out.lt
               have R6 := hid (R5.out.gq q6 (Nat.lt_of_lt_of_le hlt M5.out))
               have B6 := hid (q6.bel (gbelow_on AL.out (Nat.le_refl _) B5.out) (Nat.le_refl _))
               have B2 := hid (gbelow_on BW.out (Nat.le_refl _) B6.out)
               have L2 := hid (LF5.out.gq q6 hlt).lls
               have MB := hid (show Mbox w6 w.heap.size M from MB0.out.below B6.out MB0.out.lt)
               have CN := hid (fun (X : World) (hX : Below w6.heap.size w6 X) => says_bool (none_any (w := X) (x := x) (y := y) (z := z) (M := R) (fun j hj => ((R6.out.lim j hj).rd.below hX).mono hX.size)) true ⟨fun _ => by
                 have e1 := R6.out.nu; have e2 := R6.out.ep; have e3 := R6.out.cp; have e4 := R6.out.pl
                 simp only at e1 e2 e3 e4
                 rw [e1, e2, e3, e4], fun _ => rfl⟩)
               clear x6 q6 hlt)
            | fail)
          go_wp2_with (first
            | (refine wp_llg (by kernel_rfl) (.tmp 17) (by with_reducible rfl) wr.heap.size 0 x y z R (by rfl) xr ?_)
            | fail)
          refine (CN.out _ (Below.refl _ _)).mono ?_
          rintro e u1 ⟨rfl, hu1⟩
          have xr1 := lbx_row (XB.out.below hu1.out XB.out.lt)
          have U1 := hid hu1.out
          clear hu1 xr
          go_upto_region 24 with fail
          go_wp2_with (first | (refine wp_lload (by rfl) (.tmp 17) (by with_reducible rfl) wr.heap.size 0 x y z R (by rfl) xr1 ?_) | fail)
          refine (CN.out _ U1.out).mono ?_
          rintro e u2 ⟨rfl, hu2⟩
          have U2 := hid (gbelow_on U1.out (Nat.le_refl _) hu2.out)
          clear hu2 xr1
          go_wp2
          go_roundg (m + 60 - (i + 1))
          case measure => omega
          case rel => exact ⟨i + 1, k - 1, b, A2, c2, _, by omega, by omega, by go_num, by go_num, by go_num, rfl, hid (L2.out.on (Nat.le_refl _) U2.out), S2, hid (gbelow_on B2.out (Nat.le_refl _) U2.out), hid (by have := HB.out; omega), hid (show Mbox _ w.heap.size M from MB.out.below U2.out MB.out.lt)⟩
        · have S2 := hid hS
          rw [hX] at R5
          obtain rfl : b = 0 := hb0
          obtain ⟨rfl, rfl, hz1, hR⟩ : x = n ∧ y = ep ∧ z = k' ∧ pmd R = pmd M := ⟨R5.out.nu, R5.out.ep, R5.out.cp, R5.out.pl⟩
          have HZK := hid (And.intro hz1 (And.intro hk' hR))
          clear hX hS HD hz1 hk' hR
          go_upto_region 22 with (first
            | (refine gput_row (P := Try.prog) (by rfl) _ (.tmp 17) (.tmp 100) (by with_reducible rfl) wr.heap.size 40 _ (lcells x y z R) (by rfl) (by rfl) X5.out rfl (loadSize x y z R) (lcells_one x y z R) ?_
               intro w6 x6 q6
               have XB := hid (show Lbx w6 wr.heap.size x y z R from x6)
               have xr := lbx_row XB.out
               have hlt := XA.out.lt
               have R6 := hid (R5.out.gq q6 (Nat.lt_of_lt_of_le hlt M5.out))
               have B6 := hid (q6.bel (gbelow_on AL.out (Nat.le_refl _) B5.out) (Nat.le_refl _))
               have B2 := hid (gbelow_on BW.out (Nat.le_refl _) B6.out)
               have L2 := hid (LF5.out.gq q6 hlt).lls
               have MB := hid (show Mbox w6 w.heap.size M from MB0.out.below B6.out MB0.out.lt)
               have CN := hid (fun (X : World) (hX : Below w6.heap.size w6 X) => says_bool (none_any (w := X) (x := x) (y := y) (z := z) (M := R) (fun j hj => ((R6.out.lim j hj).rd.below hX).mono hX.size)) false ⟨fun h => (by cases h), fun h => by
                 have e := congrArg (fun q : Ld Pm => q.2.2.1) h
                 have h1 := HZK.out
                 have e : z = 0 := e
                 omega⟩)
               have CS := hid (fun (X : World) (hX : Below w6.heap.size w6 X) => says_bool (msame_raw (w := X) (D := R) (E := M) (P := ∀ j, j < 4 → Dsm (R j) (M j)) (fun j hj => ((R6.out.lim j hj).rd.below hX).mono hX.size) (fun j hj => (HM.out j hj).below (gbelow_on B2.out (Nat.le_refl _) hX) |>.mono (gbelow_on B2.out (Nat.le_refl _) hX).size) (hid Iff.rfl)) true ⟨fun _ => pmd_eq.1 HZK.out.2.2, fun _ => rfl⟩)
               clear x6 q6 hlt)
            | fail)
          go_wp2_with (first
            | (refine wp_llg (by kernel_rfl) (.tmp 17) (by with_reducible rfl) wr.heap.size 0 x y z R (by rfl) xr ?_)
            | fail)
          refine (CN.out _ (Below.refl _ _)).mono ?_
          rintro e u1 ⟨rfl, hu1⟩
          have X1 := hid (XB.out.below hu1.out XB.out.lt)
          have xr1 := lbx_row X1.out
          have x0 := X1.out.c0
          have x1 := X1.out.c1
          have xm := X1.out.mass
          have mm := mbox_row (show Mbox u1 w.heap.size M from MB.out.below hu1.out MB.out.lt)
          have U1 := hid hu1.out
          clear hu1 xr
          go_wp2_with (first
            | (refine wp_lmg (by kernel_rfl) (.tmp 131) (by with_reducible rfl) wr.heap.size 3 R (by rfl) xm ?_)
            | (refine wp_lmg (by kernel_rfl) (.tmp 8) (by with_reducible rfl) w.heap.size 0 M (by rfl) mm ?_)
            | fail)
          refine (CS.out _ U1.out).mono ?_
          rintro e u2 ⟨rfl, hu2⟩
          have U2 := hid (gbelow_on U1.out (Nat.le_refl _) hu2.out)
          have xr2 := lbx_row (X1.out.below hu2.out X1.out.lt)
          clear hu2 xr1 x0 x1 xm mm
          go_upto_region 24 with fail
          go_wp2_with (first | (refine wp_lload (by rfl) (.tmp 17) (by with_reducible rfl) wr.heap.size 0 x y z R (by rfl) xr2 ?_) | fail)
          refine (CN.out _ U2.out).mono ?_
          rintro e u3 ⟨rfl, hu3⟩
          have U3 := hid (gbelow_on U2.out (Nat.le_refl _) hu3.out)
          clear hu3 xr2
          go_wp2
          go_roundg (m + 60 - (i + 1))
          case measure => omega
          case rel => exact ⟨i + 1, k - 1, 1, A2, c2, _, by omega, by omega, by go_num, by go_num, by go_num, rfl, hid (L2.out.on (Nat.le_refl _) U3.out), S2, hid (gbelow_on B2.out (Nat.le_refl _) U3.out), hid (by have := HB.out; omega), hid (show Mbox _ w.heap.size M from MB.out.below U3.out MB.out.lt)⟩
      · have htA := fun o => Lib.cell?_alloc_some (W := wr) o htc
        clear htc
        have CL := hid (land_any (w := wr.alloc (.cells (lcells 0 0 0 D0) 40)) n (HN.out.on (Nat.le_refl _) AL.out) (Nat.le_refl _) (szl_st HZ.out HLA.out.room HZM.out HS.out))
        obtain ⟨HE, HD⟩ := st_down HLA.out HS.out ⟨by omega, HB.out.1⟩ 2 (by simp)
        rw [HE] at CL
        have HD := hid HD
        clear HE
        go_wp2_with fail
        refine CL.out.mono ?_
        rintro e w5 ⟨v5, rs5, ⟨x, y, z, R⟩, mid, rfl, H5⟩
        obtain ⟨A2, c2, rfl, hL5⟩ := H5.out.1.form
        have LF5 := hid H5.out.1
        have X5 := hid (XA.out.below H5.out.2.1 XA.out.lt)
        have R5 := hid H5.out.2.2.1
        have M5 := hid H5.out.2.2.2.2
        have B5 := hid H5.out.2.1
        clear hL5 CL H5
        rcases HD.out with ⟨hX, hS⟩ | ⟨k', hk', hX, hb0, hS⟩
        · have S2 := hid hS
          rw [hX] at R5
          clear hX hS HD
          go_upto_region 22 with (first
            | (refine gput_row (P := Try.prog) (by rfl) _ (.tmp 17) (.tmp 109) (by with_reducible rfl) wr.heap.size 40 _ (lcells x y z R) (by rfl) (by rfl) X5.out rfl (loadSize x y z R) (lcells_one x y z R) ?_
               intro w6 x6 q6
               have XB := hid (show Lbx w6 wr.heap.size x y z R from x6)
               have xr := lbx_row XB.out
               have hlt := XA.out.lt
               have R6 := hid (R5.out.gq q6 (Nat.lt_of_lt_of_le hlt M5.out))
               have B6 := hid (q6.bel (gbelow_on AL.out (Nat.le_refl _) B5.out) (Nat.le_refl _))
               have B2 := hid (gbelow_on BW.out (Nat.le_refl _) B6.out)
               have L2 := hid (LF5.out.gq q6 hlt).lls
               have MB := hid (show Mbox w6 w.heap.size M from MB0.out.below B6.out MB0.out.lt)
               have CN := hid (fun (X : World) (hX : Below w6.heap.size w6 X) => says_bool (none_any (w := X) (x := x) (y := y) (z := z) (M := R) (fun j hj => ((R6.out.lim j hj).rd.below hX).mono hX.size)) true ⟨fun _ => by
                 have e1 := R6.out.nu; have e2 := R6.out.ep; have e3 := R6.out.cp; have e4 := R6.out.pl
                 simp only at e1 e2 e3 e4
                 rw [e1, e2, e3, e4], fun _ => rfl⟩)
               clear x6 q6 hlt)
            | fail)
          go_wp2_with (first
            | (refine wp_llg (by kernel_rfl) (.tmp 17) (by with_reducible rfl) wr.heap.size 0 x y z R (by rfl) xr ?_)
            | fail)
          refine (CN.out _ (Below.refl _ _)).mono ?_
          rintro e u1 ⟨rfl, hu1⟩
          have xr1 := lbx_row (XB.out.below hu1.out XB.out.lt)
          have U1 := hid hu1.out
          clear hu1 xr
          go_upto_region 24 with fail
          go_wp2_with (first | (refine wp_lload (by rfl) (.tmp 17) (by with_reducible rfl) wr.heap.size 0 x y z R (by rfl) xr1 ?_) | fail)
          refine (CN.out _ U1.out).mono ?_
          rintro e u2 ⟨rfl, hu2⟩
          have U2 := hid (gbelow_on U1.out (Nat.le_refl _) hu2.out)
          clear hu2 xr1
          go_wp2
          go_roundg (m + 60 - (i + 1))
          case measure => omega
          case rel => exact ⟨i + 1, k - 1, b, A2, c2, _, by omega, by omega, by go_num, by go_num, by go_num, rfl, hid (L2.out.on (Nat.le_refl _) U2.out), S2, hid (gbelow_on B2.out (Nat.le_refl _) U2.out), hid (by have := HB.out; omega), hid (show Mbox _ w.heap.size M from MB.out.below U2.out MB.out.lt)⟩
        · have S2 := hid hS
          rw [hX] at R5
          obtain rfl : b = 0 := hb0
          obtain ⟨rfl, rfl, hz1, hR⟩ : x = n ∧ y = ep ∧ z = k' ∧ pmd R = pmd M := ⟨R5.out.nu, R5.out.ep, R5.out.cp, R5.out.pl⟩
          have HZK := hid (And.intro hz1 (And.intro hk' hR))
          clear hX hS HD hz1 hk' hR
          go_upto_region 22 with (first
            | (refine gput_row (P := Try.prog) (by rfl) _ (.tmp 17) (.tmp 109) (by with_reducible rfl) wr.heap.size 40 _ (lcells x y z R) (by rfl) (by rfl) X5.out rfl (loadSize x y z R) (lcells_one x y z R) ?_
               intro w6 x6 q6
               have XB := hid (show Lbx w6 wr.heap.size x y z R from x6)
               have xr := lbx_row XB.out
               have hlt := XA.out.lt
               have R6 := hid (R5.out.gq q6 (Nat.lt_of_lt_of_le hlt M5.out))
               have B6 := hid (q6.bel (gbelow_on AL.out (Nat.le_refl _) B5.out) (Nat.le_refl _))
               have B2 := hid (gbelow_on BW.out (Nat.le_refl _) B6.out)
               have L2 := hid (LF5.out.gq q6 hlt).lls
               have MB := hid (show Mbox w6 w.heap.size M from MB0.out.below B6.out MB0.out.lt)
               have CN := hid (fun (X : World) (hX : Below w6.heap.size w6 X) => says_bool (none_any (w := X) (x := x) (y := y) (z := z) (M := R) (fun j hj => ((R6.out.lim j hj).rd.below hX).mono hX.size)) false ⟨fun h => (by cases h), fun h => by
                 have e := congrArg (fun q : Ld Pm => q.2.2.1) h
                 have h1 := HZK.out
                 have e : z = 0 := e
                 omega⟩)
               have CS := hid (fun (X : World) (hX : Below w6.heap.size w6 X) => says_bool (msame_raw (w := X) (D := R) (E := M) (P := ∀ j, j < 4 → Dsm (R j) (M j)) (fun j hj => ((R6.out.lim j hj).rd.below hX).mono hX.size) (fun j hj => (HM.out j hj).below (gbelow_on B2.out (Nat.le_refl _) hX) |>.mono (gbelow_on B2.out (Nat.le_refl _) hX).size) (hid Iff.rfl)) true ⟨fun _ => pmd_eq.1 HZK.out.2.2, fun _ => rfl⟩)
               clear x6 q6 hlt)
            | fail)
          go_wp2_with (first
            | (refine wp_llg (by kernel_rfl) (.tmp 17) (by with_reducible rfl) wr.heap.size 0 x y z R (by rfl) xr ?_)
            | fail)
          refine (CN.out _ (Below.refl _ _)).mono ?_
          rintro e u1 ⟨rfl, hu1⟩
          have X1 := hid (XB.out.below hu1.out XB.out.lt)
          have xr1 := lbx_row X1.out
          have x0 := X1.out.c0
          have x1 := X1.out.c1
          have xm := X1.out.mass
          have mm := mbox_row (show Mbox u1 w.heap.size M from MB.out.below hu1.out MB.out.lt)
          have U1 := hid hu1.out
          clear hu1 xr
          go_wp2_with (first
            | (refine wp_lmg (by kernel_rfl) (.tmp 131) (by with_reducible rfl) wr.heap.size 3 R (by rfl) xm ?_)
            | (refine wp_lmg (by kernel_rfl) (.tmp 8) (by with_reducible rfl) w.heap.size 0 M (by rfl) mm ?_)
            | fail)
          refine (CS.out _ U1.out).mono ?_
          rintro e u2 ⟨rfl, hu2⟩
          have U2 := hid (gbelow_on U1.out (Nat.le_refl _) hu2.out)
          have xr2 := lbx_row (X1.out.below hu2.out X1.out.lt)
          clear hu2 xr1 x0 x1 xm mm
          go_upto_region 24 with fail
          go_wp2_with (first | (refine wp_lload (by rfl) (.tmp 17) (by with_reducible rfl) wr.heap.size 0 x y z R (by rfl) xr2 ?_) | fail)
          refine (CN.out _ U2.out).mono ?_
          rintro e u3 ⟨rfl, hu3⟩
          have U3 := hid (gbelow_on U2.out (Nat.le_refl _) hu3.out)
          clear hu3 xr2
          go_wp2
          go_roundg (m + 60 - (i + 1))
          case measure => omega
          case rel => exact ⟨i + 1, k - 1, 1, A2, c2, _, by omega, by omega, by go_num, by go_num, by go_num, rfl, hid (L2.out.on (Nat.le_refl _) U3.out), S2, hid (gbelow_on B2.out (Nat.le_refl _) U3.out), hid (by have := HB.out; omega), hid (show Mbox _ w.heap.size M from MB.out.below U3.out MB.out.lt)⟩
    · have himz : ¬ (i : Int) < (m : Int) := by omega
      have CL := hid (land_any (w := wr.alloc (.cells (lcells 0 0 0 D0) 40)) n (HN.out.on (Nat.le_refl _) AL.out) (Nat.le_refl _) (szl_st HZ.out HLA.out.room HZM.out HS.out))
      obtain ⟨HE, HD⟩ := st_down HLA.out HS.out ⟨by omega, HB.out.1⟩ 2 (by simp)
      rw [HE] at CL
      have HD := hid HD
      clear HE
      go_wp2_with fail
      refine CL.out.mono ?_
      rintro e w5 ⟨v5, rs5, ⟨x, y, z, R⟩, mid, rfl, H5⟩
      obtain ⟨A2, c2, rfl, hL5⟩ := H5.out.1.form
      have LF5 := hid H5.out.1
      have X5 := hid (XA.out.below H5.out.2.1 XA.out.lt)
      have R5 := hid H5.out.2.2.1
      have M5 := hid H5.out.2.2.2.2
      have B5 := hid H5.out.2.1
      clear hL5 CL H5
      rcases HD.out with ⟨hX, hS⟩ | ⟨k', hk', hX, hb0, hS⟩
      · have S2 := hid hS
        rw [hX] at R5
        clear hX hS HD
        go_upto_region 22 with (first
          | (refine gput_row (P := Try.prog) (by rfl) _ (.tmp 17) (.tmp 109) (by with_reducible rfl) wr.heap.size 40 _ (lcells x y z R) (by rfl) (by rfl) X5.out rfl (loadSize x y z R) (lcells_one x y z R) ?_
             intro w6 x6 q6
             have XB := hid (show Lbx w6 wr.heap.size x y z R from x6)
             have xr := lbx_row XB.out
             have hlt := XA.out.lt
             have R6 := hid (R5.out.gq q6 (Nat.lt_of_lt_of_le hlt M5.out))
             have B6 := hid (q6.bel (gbelow_on AL.out (Nat.le_refl _) B5.out) (Nat.le_refl _))
             have B2 := hid (gbelow_on BW.out (Nat.le_refl _) B6.out)
             have L2 := hid (LF5.out.gq q6 hlt).lls
             have MB := hid (show Mbox w6 w.heap.size M from MB0.out.below B6.out MB0.out.lt)
             have CN := hid (fun (X : World) (hX : Below w6.heap.size w6 X) => says_bool (none_any (w := X) (x := x) (y := y) (z := z) (M := R) (fun j hj => ((R6.out.lim j hj).rd.below hX).mono hX.size)) true ⟨fun _ => by
               have e1 := R6.out.nu; have e2 := R6.out.ep; have e3 := R6.out.cp; have e4 := R6.out.pl
               simp only at e1 e2 e3 e4
               rw [e1, e2, e3, e4], fun _ => rfl⟩)
             clear x6 q6 hlt)
          | fail)
        go_wp2_with (first
          | (refine wp_llg (by kernel_rfl) (.tmp 17) (by with_reducible rfl) wr.heap.size 0 x y z R (by rfl) xr ?_)
          | fail)
        refine (CN.out _ (Below.refl _ _)).mono ?_
        rintro e u1 ⟨rfl, hu1⟩
        have xr1 := lbx_row (XB.out.below hu1.out XB.out.lt)
        have U1 := hid hu1.out
        clear hu1 xr
        go_upto_region 24 with fail
        go_wp2_with (first | (refine wp_lload (by rfl) (.tmp 17) (by with_reducible rfl) wr.heap.size 0 x y z R (by rfl) xr1 ?_) | fail)
        refine (CN.out _ U1.out).mono ?_
        rintro e u2 ⟨rfl, hu2⟩
        have U2 := hid (gbelow_on U1.out (Nat.le_refl _) hu2.out)
        clear hu2 xr1
        go_wp2
        go_roundg (m + 60 - (i + 1))
        case measure => omega
        case rel => exact ⟨i + 1, k - 1, b, A2, c2, _, by omega, by omega, by go_num, by go_num, by go_num, rfl, hid (L2.out.on (Nat.le_refl _) U2.out), S2, hid (gbelow_on B2.out (Nat.le_refl _) U2.out), hid (by have := HB.out; omega), hid (show Mbox _ w.heap.size M from MB.out.below U2.out MB.out.lt)⟩
      · have S2 := hid hS
        rw [hX] at R5
        obtain rfl : b = 0 := hb0
        obtain ⟨rfl, rfl, hz1, hR⟩ : x = n ∧ y = ep ∧ z = k' ∧ pmd R = pmd M := ⟨R5.out.nu, R5.out.ep, R5.out.cp, R5.out.pl⟩
        have HZK := hid (And.intro hz1 (And.intro hk' hR))
        clear hX hS HD hz1 hk' hR
        go_upto_region 22 with (first
          | (refine gput_row (P := Try.prog) (by rfl) _ (.tmp 17) (.tmp 109) (by with_reducible rfl) wr.heap.size 40 _ (lcells x y z R) (by rfl) (by rfl) X5.out rfl (loadSize x y z R) (lcells_one x y z R) ?_
             intro w6 x6 q6
             have XB := hid (show Lbx w6 wr.heap.size x y z R from x6)
             have xr := lbx_row XB.out
             have hlt := XA.out.lt
             have R6 := hid (R5.out.gq q6 (Nat.lt_of_lt_of_le hlt M5.out))
             have B6 := hid (q6.bel (gbelow_on AL.out (Nat.le_refl _) B5.out) (Nat.le_refl _))
             have B2 := hid (gbelow_on BW.out (Nat.le_refl _) B6.out)
             have L2 := hid (LF5.out.gq q6 hlt).lls
             have MB := hid (show Mbox w6 w.heap.size M from MB0.out.below B6.out MB0.out.lt)
             have CN := hid (fun (X : World) (hX : Below w6.heap.size w6 X) => says_bool (none_any (w := X) (x := x) (y := y) (z := z) (M := R) (fun j hj => ((R6.out.lim j hj).rd.below hX).mono hX.size)) false ⟨fun h => (by cases h), fun h => by
               have e := congrArg (fun q : Ld Pm => q.2.2.1) h
               have h1 := HZK.out
               have e : z = 0 := e
               omega⟩)
             have CS := hid (fun (X : World) (hX : Below w6.heap.size w6 X) => says_bool (msame_raw (w := X) (D := R) (E := M) (P := ∀ j, j < 4 → Dsm (R j) (M j)) (fun j hj => ((R6.out.lim j hj).rd.below hX).mono hX.size) (fun j hj => (HM.out j hj).below (gbelow_on B2.out (Nat.le_refl _) hX) |>.mono (gbelow_on B2.out (Nat.le_refl _) hX).size) (hid Iff.rfl)) true ⟨fun _ => pmd_eq.1 HZK.out.2.2, fun _ => rfl⟩)
             clear x6 q6 hlt)
          | fail)
        go_wp2_with (first
          | (refine wp_llg (by kernel_rfl) (.tmp 17) (by with_reducible rfl) wr.heap.size 0 x y z R (by rfl) xr ?_)
          | fail)
        refine (CN.out _ (Below.refl _ _)).mono ?_
        rintro e u1 ⟨rfl, hu1⟩
        have X1 := hid (XB.out.below hu1.out XB.out.lt)
        have xr1 := lbx_row X1.out
        have x0 := X1.out.c0
        have x1 := X1.out.c1
        have xm := X1.out.mass
        have mm := mbox_row (show Mbox u1 w.heap.size M from MB.out.below hu1.out MB.out.lt)
        have U1 := hid hu1.out
        clear hu1 xr
        go_wp2_with (first
          | (refine wp_lmg (by kernel_rfl) (.tmp 131) (by with_reducible rfl) wr.heap.size 3 R (by rfl) xm ?_)
          | (refine wp_lmg (by kernel_rfl) (.tmp 8) (by with_reducible rfl) w.heap.size 0 M (by rfl) mm ?_)
          | fail)
        refine (CS.out _ U1.out).mono ?_
        rintro e u2 ⟨rfl, hu2⟩
        have U2 := hid (gbelow_on U1.out (Nat.le_refl _) hu2.out)
        have xr2 := lbx_row (X1.out.below hu2.out X1.out.lt)
        clear hu2 xr1 x0 x1 xm mm
        go_upto_region 24 with fail
        go_wp2_with (first | (refine wp_lload (by rfl) (.tmp 17) (by with_reducible rfl) wr.heap.size 0 x y z R (by rfl) xr2 ?_) | fail)
        refine (CN.out _ U2.out).mono ?_
        rintro e u3 ⟨rfl, hu3⟩
        have U3 := hid (gbelow_on U2.out (Nat.le_refl _) hu3.out)
        clear hu3 xr2
        go_wp2
        go_roundg (m + 60 - (i + 1))
        case measure => omega
        case rel => exact ⟨i + 1, k - 1, 1, A2, c2, _, by omega, by omega, by go_num, by go_num, by go_num, rfl, hid (L2.out.on (Nat.le_refl _) U3.out), S2, hid (gbelow_on B2.out (Nat.le_refl _) U3.out), hid (by have := HB.out; omega), hid (show Mbox _ w.heap.size M from MB.out.below U3.out MB.out.lt)⟩
end Go.Proofs.Ytejngjhdmneaiaa.Fli
