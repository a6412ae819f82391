/- each: something is done with each of a list. -/
import Derived.Test.YtdemhghflanncaaKputr
namespace Go.Proofs.Ytdemhghflanncaa
open Go.RowKit Go.Shelf Go.Lib

set_option maxHeartbeats 3200000 in
theorem each_any (I : Nat → World → Prop) (g : Nat) (bd lb : Array Value) (eg : ∀ args w, (callFunc g args).run Try.prog w = .ok (.enter g args) w) {w : World} {B n c : Nat} {A : Option Addr} {l : List De} (h : Ds w B A n c l) (hB : B ≤ w.heap.size)
    (hI : ∀ k W W', I k W → Below W.heap.size W W' → I k W') (h0 : I 0 w)
    (hstep : ∀ k d W, l[k]? = some d → Below B w W → I k W → Calls Try.prog g (bd.push (dv d) ++ lb) W fun e w' => e = .returned (.tuple #[]) ∧ Hid (I (k + 1) w' ∧ Below B W w')) :
    Calls Try.prog 30 #[.slice A n c, .func (.func g) bd lb] w fun e w' => e = .returned (.tuple #[]) ∧ Hid (I n w' ∧ Below B w w') := by
  have H := hid h
  have hm := h.max
  have hcap := h.cap
  have HI := hid hI
  have HS := hid hstep
  have H0 := hid h0
  clear h hI hstep h0
  go_enter Try.func30, Try.ntmps30
  go_wp2
  go_loopg [8] n (fun gg s8 wr => ∃ kk : Nat, kk ≤ n ∧ n - kk ≤ gg ∧ s8 = .int .i64 kk ∧ Hid (Below B w wr) ∧ Hid (I kk wr))
  case atStart => exact ⟨0, Nat.zero_le _, by omega, rfl, hid (Below.refl _ w), H0⟩
  case round =>
    obtain ⟨kk, hkk, hg, rfl, BW, HK⟩ := hrel
    by_cases hlt : kk < n
    · have hltz : (kk : Int) < (n : Int) := by omega
      obtain ⟨d, hd⟩ := H.out.get hlt
      obtain ⟨b, off, rfl, hbB, hc⟩ := (H.out.below BW.out).at_ (by omega)
      obtain ⟨c1, c2⟩ := hc kk d hd
      have Hd := hid hd
      clear hc hd
      obtain ⟨d1, d2⟩ := d
      change wr.cell? ⟨b, off + kk * 2, none⟩ = some (.int .i64 d1) at c1
      change wr.cell? ⟨b, off + kk * 2 + 1, none⟩ = some (.int .i64 d2) at c2
      have hws : B ≤ wr.heap.size := Nat.le_trans hB BW.out.size
      have HC := hid (fun W (hb : Below wr.heap.size wr W) => HS.out kk (d1, d2) W Hd.out (BW.out.trans (hb.mono hws)) (HI.out kk wr W HK.out hb))
      go_wp2_with fail
      refine (HC.out _ ((Below.refl _ wr).alloc (Nat.le_refl _) _)).mono ?_
      rintro e w' ⟨rfl, hR⟩
      go_wp2
      go_roundg (n - (kk + 1))
      case measure => omega
      case rel => exact ⟨kk + 1, by omega, by omega, by go_num, hid (BW.out.trans (((Below.refl wr.heap.size wr).alloc (Nat.le_refl _) _).mono hws |>.trans hR.out.2)), hid hR.out.1⟩
    · have hltz : ¬ (kk : Int) < (n : Int) := by omega
      obtain rfl : kk = n := by omega
      go_wp2
      go_end0
      exact ⟨rfl, hid ⟨HK.out, BW.out⟩⟩

theorem take_snoc {l : List De} {k : Nat} {d : De} (h : l[k]? = some d) : l.take (k + 1) = l.take k ++ [d] := by
  rw [List.take_add_one, h]
  rfl
theorem RowS.new (w : World) (B : Nat) (h : B ≤ w.heap.size) : RowS (w.alloc (.cells #[.slice none 0 0] 78)) B w.heap.size [] :=
  ⟨.slice none 0 0, heap_alloc_new w _, Od.nil _ _, h, by simp [Value.ownBlock]⟩

set_option maxHeartbeats 3200000 in
theorem order_any {w : World} {B n c : Nat} {A : Option Addr} {l : List De} (h : Ds w B A n c l) (hB : B ≤ w.heap.size) :
    Calls Try.prog 29 #[.slice A n c] w fun e w' => ∃ v, e = .returned (.tuple #[v, .int .i64 (chk l)]) ∧ Hid (Od w' w.heap.size v (orr l) ∧ Below w.heap.size w w') := by
  have HC := hid (check_any h hB)
  have H := hid (h.mono hB)
  have hm := h.max
  have HL := hid h.len
  clear h
  by_cases h0 : chk l = 0
  · have ho : orr l = srt l := if_pos h0
    have HZ := hid (chk_zero.1 h0)
    rw [h0] at HC ⊢
    rw [ho]
    clear h0 ho
    go_enter Try.func29, Try.ntmps29
    go_upto_region 5 with (first | (go_at_call 41; refine HC.out.mono ?_; rintro e w1 ⟨rfl, hb1⟩) | fail)
    obtain ⟨w2, hw2⟩ : ∃ w2, w2 = w1.alloc (.cells #[.slice none 0 0] 78) := ⟨_, rfl⟩
    have hR : RowS w2 w.heap.size w1.heap.size [] := hw2 ▸ RowS.new w1 w.heap.size hb1.out.size
    have hb2 := hid (hb1.out.trans ((show Below w1.heap.size w1 w2 from hw2 ▸ (Below.refl _ w1).alloc (Nat.le_refl _) _).mono hb1.out.size))
    rw [← hw2]
    clear hw2
    have HE := hid (each_any (fun k W => RowS W w.heap.size w1.heap.size (srt (l.take k))) 42 #[.pointer (some ⟨w1.heap.size, 0, none⟩)] #[] (enters_of Try.func42 (by kernel_rfl) rfl) (H.out.below hb2.out) hb2.out.size
      (fun k W W' hk hb => hk.below hb) (by show RowS w2 _ _ (srt (l.take 0)); exact hR)
      (fun k d W hd hb hk => by
        rw [take_snoc hd, srt_snoc]
        refine (put_any d hk (by
          have h1 := (List.getElem?_eq_some_iff.1 hd).1
          have h2 := HZ.out.1
          rw [srt_length, List.length_take]
          omega)).mono ?_
        rintro e w' ⟨rfl, hR⟩
        exact ⟨rfl, hid hR.out⟩))
    clear hR
    go_wp2_with fail
    refine HE.out.mono ?_
    rintro e w3 ⟨rfl, hE⟩
    obtain ⟨⟨v, hv1, hv2, _, _⟩, hb3⟩ := hE.out
    rw [List.take_of_length_le (by rw [HL.out]; exact Nat.le_refl _)] at hv2
    obtain ⟨A', c', hve, _⟩ := hv2.form
    have hc : w3.cell? ⟨w1.heap.size, 0, none⟩ = some v := (cell_of_row w3 _ 0 _ _ (0, 0) hv1).trans rfl
    have HV := hid hv2
    have HB3 := hid (hb2.out.trans hb3)
    generalize (srt l).length = m at hve
    subst hve
    clear hv1 hv2 hb3 hE HE
    go_wp2
    go_ret2
    exact ⟨_, rfl, hid ⟨HV.out, HB3.out⟩⟩
  · have ho : orr l = [] := if_neg h0
    rw [ho]
    generalize chk l = x at h0 HC ⊢
    go_enter Try.func29, Try.ntmps29
    go_wp2_with (go_at_call 41; refine HC.out.mono ?_; rintro e w1 ⟨rfl, hb1⟩)
    go_ret2
    exact ⟨_, rfl, hid ⟨Od.nil _ _, hb1.out⟩⟩

/-- What lies in the best ones' two variables: which nodes are there, and the list. -/
def BestS (w : World) (B g0 g1 : Nat) (l : List De) : Prop :=
  B ≤ g0 ∧ B ≤ g1 ∧ g0 ≠ g1 ∧ (∃ cs : Array Value, w.heap[g0]? = some (.cells cs 62 (0, 0)) ∧ cs.size = 8 ∧ ∀ i : Nat, i < 8 → cs[i]? = some (.bool (l.any (fun x => x.1 == (i : Int))))) ∧
  ∃ v, w.heap[g1]? = some (.cells #[v] 27 (0, 0)) ∧ Od w B v (fsts l) ∧ v.ownBlock ≠ some g0 ∧ v.ownBlock ≠ some g1
theorem BestS.below {w w' : World} {B g0 g1 : Nat} {l : List De} (h : BestS w B g0 g1 l) (hb : Below w.heap.size w w') : BestS w' B g0 g1 l := by
  obtain ⟨h1, h2, h3, ⟨cs, h4, h5⟩, v, h6, h7, h8⟩ := h
  exact ⟨h1, h2, h3, ⟨cs, (hb.block _ (lt_of_heap h4)).trans h4, h5⟩, v, (hb.block _ (lt_of_heap h6)).trans h6, h7.below hb, h8⟩
end Go.Proofs.Ytdemhghflanncaa
