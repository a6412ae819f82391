/- A queue is filled, and emptied. -/
import Derived.Test.YtgcmljnjfghagaaTu
namespace Go.Proofs.Ytgcmljnjfghagaa.Tm
open Go.RowKit Go.Shelf Go.Lib
set_option maxRecDepth 100000

set_option maxHeartbeats 1600000 in
theorem put_any {w : World} {B g : Nat} {v : Value} {l : List De} (d : De) (h : Qu w B g v l) (hn : l.length < 99999) (hh : Hn l l.length) :
    Calls Try.prog 29 #[.pointer (some ⟨g, 0, none⟩), dv d] w fun e w' => e = .returned (.tuple #[]) ∧ Hid (HeapS w B g (d :: l) w') := by
  obtain ⟨d1, d2⟩ := d
  have b1 := box1 w d1 d2
  have C1 := hid (hpush_any (d1 := d1) (d2 := d2) (h.below b1) hn hh)
  have BX := hid (b1.mono h.size)
  clear h hn hh b1
  show Calls Try.prog 29 #[.pointer (some ⟨g, 0, none⟩), .agg #[.int .i64 d1, .int .i64 d2]] w _
  go_enter Try.func29, Try.ntmps29
  go_wp2_with (first
    | (go_at_call 48; with_reducible refine C1.out.mono ?_; rintro e w1 ⟨rfl, H1⟩)
    | fail)
  go_end0
  obtain ⟨l', ⟨v', q1, q2⟩, q3, q4⟩ := H1.out
  exact ⟨rfl, hid ⟨l', ⟨v', q1, BX.out.trans q2⟩, q3, q4⟩⟩

set_option maxHeartbeats 1600000 in
theorem lay_any {w : World} {B g : Nat} {v : Value} {l : List De} (d : De) (h : Qu w B g v l) (hn : l.length < 99999) :
    Calls Try.prog 28 #[.pointer (some ⟨g, 0, none⟩), dv d] w fun e w' => e = .returned (.tuple #[]) ∧ Hid (Holds w B g (l ++ [d]) w') := by
  obtain ⟨d1, d2⟩ := d
  have b1 := box1 w d1 d2
  have C1 := hid (push_any (d1 := d1) (d2 := d2) (h.below b1) (by omega))
  have BX := hid (b1.mono h.size)
  clear h hn b1
  show Calls Try.prog 28 #[.pointer (some ⟨g, 0, none⟩), .agg #[.int .i64 d1, .int .i64 d2]] w _
  go_enter Try.func28, Try.ntmps28
  go_wp2_with (first
    | (go_at_call 47; with_reducible refine C1.out.mono ?_; rintro e w1 ⟨rfl, H1⟩)
    | fail)
  go_end0
  obtain ⟨v', q1, q2⟩ := H1.out
  exact ⟨rfl, hid ⟨v', q1, BX.out.trans q2⟩⟩

/-- What filled leaves. -/
def FillS (w : World) (P : List De → Prop) : Ending → World → Prop := fun e w' => ∃ g, e = .returned (.pointer (some ⟨g, 0, none⟩)) ∧ Hid (∃ v r, Qu w' w.heap.size g v r ∧ P r ∧ Below w.heap.size w w')

set_option maxHeartbeats 3200000 in
theorem filled_any (f : Nat) (eg : ∀ args w, (callFunc f args).run Try.prog w = .ok (.enter f args) w) (P : List De → List De → Prop) {w : World} {C n c : Nat} {A : Option Addr} {l : List De} (h : Ds w C A n c l) (hC : C ≤ w.heap.size)
    (p0 : P [] [])
    (hf : ∀ (X : World) (g : Nat) (v : Value) (r : List De) (k : Nat) (d : De), Qu X w.heap.size g v r → P (l.take k) r → l[k]? = some d → Calls Try.prog f #[.pointer (some ⟨g, 0, none⟩), dv d] X fun e w' => e = .returned (.tuple #[]) ∧ Hid (∃ r', Holds X w.heap.size g r' w' ∧ P (l.take (k + 1)) r')) :
    Calls Try.prog 27 #[.func (.func f) #[] #[], .slice A n c] w (FillS w (P l)) := by
  have HD := hid (h.mono hC)
  have hcap := h.cap
  have hm := h.max
  have HL := hid h.len
  have HF := hid hf
  have P0 := hid p0
  obtain ⟨W1, hW1⟩ : ∃ W1, W1 = w.alloc (.cells #[.slice none 0 0] 70) := ⟨_, rfl⟩
  have Q1 : Hid (Qu W1 w.heap.size w.heap.size (.slice none 0 0) []) := hid ⟨hW1 ▸ heap_alloc_new w _, Od.nil _ _, Nat.le_refl _, by simp [Value.ownBlock]⟩
  have B1 : Hid (Below w.heap.size w W1) := hid (hW1 ▸ (Below.refl _ w).alloc (Nat.le_refl _) _)
  have HW1 := hid hW1
  clear h hf hW1 p0
  go_enter Try.func27, Try.ntmps27
  go_upto_region 2 with fail
  rw [← HW1.out]
  clear HW1
  go_wp2
  go_loopg [7, 12] n (fun gg _ s12 wr => ∃ (k : Nat), s12 = .int .i64 k ∧ k ≤ n ∧ n - k ≤ gg ∧ Hid (Below w.heap.size w wr) ∧ Hid (∃ v r, Qu wr w.heap.size w.heap.size v r ∧ P (l.take k) r))
  case atStart => exact ⟨0, rfl, Nat.zero_le _, by omega, B1, hid ⟨_, [], Q1.out, P0.out⟩⟩
  case round =>
    obtain ⟨k, rfl, hk, hg, BW, HQ⟩ := hrel
    by_cases hkn : k < n
    case pos =>
      have hlt : (k : Int) < (n : Int) := by omega
      obtain ⟨d, hd⟩ := HD.out.get hkn
      obtain ⟨b, off, rfl, _, hcc⟩ := (HD.out.below BW.out).at_ (by omega)
      obtain ⟨c1, c2⟩ := hcc k d hd
      obtain ⟨v, r, Qr, Pr⟩ := HQ.out
      obtain ⟨d1, d2⟩ := d
      change wr.cell? ⟨b, off + k * 2, none⟩ = some (.int .i64 d1) at c1
      change wr.cell? ⟨b, off + k * 2 + 1, none⟩ = some (.int .i64 d2) at c2
      have b2 := box1 wr d1 d2
      have CF := hid (HF.out _ _ _ _ _ _ (Qr.below b2) Pr hd)
      have BX := hid (BW.out.trans (b2.mono BW.out.size))
      unfold dv at CF
      clear hcc hd Qr Pr HQ b2
      go_wp2_with fail
      refine CF.out.mono ?_
      rintro e w2 ⟨rfl, H2⟩
      go_wp2
      go_roundg (n - (k + 1))
      case measure => omega
      case rel =>
        obtain ⟨r', ⟨v', q1, q2⟩, q3⟩ := H2.out
        exact ⟨k + 1, by go_num, by omega, by omega, hid (BX.out.trans q2), hid ⟨v', r', q1, q3⟩⟩
    have hlt : ¬ (k : Int) < (n : Int) := by omega
    obtain rfl : k = n := by omega
    go_wp2
    go_ret
    obtain ⟨v, r, Qr, Pr⟩ := HQ.out
    rw [List.take_of_length_le (by rw [HL.out]; exact Nat.le_refl _)] at Pr
    exact ⟨_, rfl, hid ⟨v, r, Qr, Pr, BW.out⟩⟩

theorem Od.kp {w x : World} {C g : Nat} {o : Option Nat} {u : Value} {s : List De} (h : Od w C u s) (k : Kp g o w x) (hg : g < C) (ho : ∀ b, o = some b → b < C) : Od x C u s := by
  obtain ⟨⟨hl, hor⟩, hm⟩ := h
  refine ⟨⟨hl, ?_⟩, hm⟩
  rcases hor with e | ⟨b, cap, cur, e, hB, hb, hr⟩
  · exact .inl e
  · exact .inr ⟨b, cap, cur, e, hB, (k.block b (lt_of_heap hb) (by omega) (fun e => by have := ho b e.symm; omega)).trans hb, hr⟩
theorem Qu.far {w x : World} {B C g : Nat} {v u : Value} {l s : List De} (h : Qu w B g v l) (k : w.grownBy x u.ownBlock) (ho : Od w C u s) (hg : g < C) (hv : ∀ b, v.ownBlock = some b → b < C) : Qu x B g v l := by
  refine ⟨(k.block g (lt_of_heap h.box) (fun e => ?_)).trans h.box, h.od.kept k ?_, h.le, h.ne⟩
  · have := (own_lt ho g e.symm).1
    omega
  · cases hq : v.ownBlock with
    | none => exact .inl rfl
    | some b => exact .inr (fun e => by have h1 := hv b hq; have h2 := (own_lt ho b e.symm).1; omega)

/-- What emptied leaves. -/
def EmpS (w : World) (B : Nat) (l : List De) : Ending → World → Prop := fun e w' => ∃ u s, e = .returned u ∧ Hid (Od w' w.heap.size u s ∧ s.Perm l ∧ So s ∧ Below B w w')
theorem so_snoc {s r l : List De} {x : De} {r' : List De} (hs : So s) (hsr : ∀ a ∈ s, ∀ b ∈ r, le a b) (hp : (s ++ r).Perm l) (hx : (x :: r').Perm r) (hm : ∀ y ∈ r, le x y) :
    So (s ++ [x]) ∧ (∀ a ∈ s ++ [x], ∀ b ∈ r', le a b) ∧ ((s ++ [x]) ++ r').Perm l := by
  have hxr : x ∈ r := hx.mem_iff.1 (by simp)
  have hr' : ∀ b ∈ r', b ∈ r := fun b hb => hx.mem_iff.1 (by simp [hb])
  refine ⟨List.pairwise_append.2 ⟨hs, by simp, fun a ha b hb => ?_⟩, fun a ha b hb => ?_, ?_⟩
  · rw [List.mem_singleton.1 hb]
    exact hsr a ha x hxr
  · rcases List.mem_append.1 ha with h | h
    · exact hsr a h b (hr' b hb)
    · rw [List.mem_singleton.1 h]
      exact hm b (hr' b hb)
  · rw [List.append_assoc]
    exact (hx.append_left s).trans hp

set_option maxHeartbeats 6400000 in
theorem emptied_any {w : World} {B g : Nat} {v : Value} {l : List De} (h : Qu w B g v l) (hh : Hn l l.length) :
    Calls Try.prog 30 #[.pointer (some ⟨g, 0, none⟩)] w (EmpS w B l) := by
  have HQ0 := hid h
  have HH := hid hh
  have hgW := hid (lt_of_heap h.box)
  have hvW := hid (fun b hb => (own_lt h.od b hb).2)
  have hmx := hid h.od.max
  clear h hh
  go_enter Try.func30, Try.ntmps30
  go_wp2
  go_loopg [3] l.length (fun gg s3 wr => ∃ (A2 : Option Addr) (n2 c2 : Nat) (s r : List De) (m : Nat), s3 = .slice A2 n2 c2 ∧ m ≤ gg ∧ Hid (r.length = m) ∧ Hid (∃ vr, Qu wr B g vr r ∧ vr.ownBlock = v.ownBlock) ∧ Hid (Od wr w.heap.size (.slice A2 n2 c2) s) ∧ Hid ((s ++ r).Perm l ∧ So s ∧ (∀ a ∈ s, ∀ b ∈ r, le a b) ∧ Hn r r.length) ∧ Hid (Kp g v.ownBlock w wr))
  case atStart => exact ⟨none, 0, 0, [], l, l.length, rfl, Nat.le_refl _, hid rfl, hid ⟨v, HQ0.out, rfl⟩, hid (Od.nil _ _), hid ⟨List.Perm.refl _, List.Pairwise.nil, by simp, HH.out⟩, hid (Kp.refl _ _ _)⟩
  case round =>
    obtain ⟨A2, n2, c2, s, r, m, rfl, hmg, hrm, HQ, HO, HP, HK⟩ := hrel
    obtain ⟨vr, Qr, ovr⟩ := HQ.out
    obtain ⟨A, mm, c, rfl, _, _⟩ := od_letter Qr.od
    obtain rfl : m = mm := by rw [← hrm.out]; exact Qr.od.row_len
    have c0 := Qr.c0
    have CL := hid (len_any (w := wr) (A := A) (n := m) (c := c))
    have HQr := hid (And.intro Qr ovr)
    rcases Nat.eq_zero_or_pos m with h0 | h0
    · subst h0
      clear Qr ovr HQ
      go_wp2_with (first
        | (go_at_call 49; with_reducible refine CL.out.mono ?_; rintro e w2 ⟨rfl, rfl⟩)
        | fail)
      go_ret
      have hr0 := List.length_eq_zero_iff.1 hrm.out
      have hp := HP.out.1
      rw [hr0, List.append_nil] at hp
      exact ⟨_, s, rfl, hid ⟨HO.out, hp, HP.out.2.1, HK.out.below HQ0.out⟩⟩
    · obtain ⟨q, rfl⟩ : ∃ q, m = q + 1 := ⟨m - 1, by omega⟩
      have CL2 : Hid (Calls Try.prog 49 #[.slice A (q + 1) c] wr fun e w' => e = .returned (.int .i64 ((q : Int) + 1)) ∧ wr = w') := hid CL.out
      have hq0 : (0 : Int) < (q : Int) + 1 := by omega
      have CP := hid (hpop_any Qr hrm.out HP.out.2.2.2)
      unfold HPopS av at CP
      clear Qr ovr HQ CL h0
      go_wp2_with (first
        | (go_at_call 49; with_reducible refine CL2.out.mono ?_; rintro e w2 ⟨rfl, rfl⟩)
        | (go_at_call 50; with_reducible refine CP.out.mono ?_; rintro e w2 ⟨⟨x1, x2⟩, l', rfl, H2⟩
           have hta := assert_any x1 x2
           obtain ⟨⟨v2, Q2, o2, k2⟩, p2, hn2, m2⟩ := H2.out
           have hgC := hgW.out
           have O2 := hid (HO.out.kp k2 hgC (fun b hb => hvW.out b (by rw [← hb, HQr.out.2])))
           have Bx := hid (box1 w2 x1 x2)
           have O3 := hid (O2.out.below Bx.out)
           have D3 : Hid (Ds (w2.alloc (.cells #[.int .i64 x1, .int .i64 x2] 23)) (w2.alloc (.cells #[.int .i64 x1, .int .i64 x2] 23)).heap.size (some ⟨w2.heap.size, 0, none⟩) 1 1 [(x1, x2)]) := hid (ds_at (heap_alloc_new w2 _))
           have S3 : Hid (w.heap.size ≤ (w2.alloc (.cells #[.int .i64 x1, .int .i64 x2] 23)).heap.size) := hid (Nat.le_trans HK.out.size (Nat.le_trans k2.size Bx.out.size))
           have HS := hid (so_snoc HP.out.2.1 HP.out.2.2.1 HP.out.1 p2 m2)
           have hsl : Hid (s.length + 1 ≤ 100000) := hid (by
             have h1 := HP.out.1.length_eq
             have h2 := hmx.out
             have h3 := hrm.out
             rw [List.length_append] at h1
             omega)
           have H3 := hid (And.intro Q2 (And.intro o2 (And.intro k2 (And.intro p2 hn2))))
           clear Q2 o2 k2 p2 hn2 m2 H2 hgC CP CL2)
        | (at_builtin; refine list_appD rfl _ _ rfl rfl rfl O3.out D3.out hsl.out S3.out ?_; intro u' w3 HT; obtain ⟨A4, n4, c4, rfl, _, _⟩ := od_letter HT.out.own)
        | fail)
      go_roundg q
      case measure => omega
      case rel =>
        obtain ⟨Q2, o2, k2, p2, hn2⟩ := H3.out
        have ov : v2.ownBlock = v.ownBlock := o2.trans HQr.out.2
        have Q4 := (Q2.below Bx.out).far HT.out.grown O3.out hgW.out (fun b hb => hvW.out b (by rw [← ov]; exact hb))
        have kk : Kp g v.ownBlock w w2 := HK.out.trans (by rw [← HQr.out.2]; exact k2)
        refine ⟨A4, n4, c4, s ++ [(x1, x2)], l', q, rfl, by omega, hid (by have := p2.length_eq; rw [List.length_cons, hrm.out] at this; omega), hid ⟨v2, Q4, ov⟩, hid HT.out.own, hid ⟨HS.out.2.2, HS.out.1, HS.out.2.1, hn2⟩, hid ?_⟩
        have k3 := kk.trans (Kp.bel Bx.out)
        exact ⟨HT.out.grown.os.trans k3.os, HT.out.grown.tape.trans k3.tape, HT.out.grown.output.trans k3.output, Nat.le_trans k3.size HT.out.grown.size, fun k hk h1 h2 => (HT.out.grown.block k (Nat.lt_of_lt_of_le hk k3.size) (fun e => by have := (own_lt O3.out k e.symm).1; omega)).trans (k3.block k hk h1 h2)⟩
end Go.Proofs.Ytgcmljnjfghagaa.Tm
