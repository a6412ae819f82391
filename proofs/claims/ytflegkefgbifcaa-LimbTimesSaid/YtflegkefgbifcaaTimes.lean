/- The law LimbTimes, walked: for any two slices it returns true, and turns no memory that was there. -/
import Derived.Test.YtflegkefgbifcaaRdiv
import Derived.Test.YtflegkefgbifcaaSpoil
import Derived.Test.YtflegkefgbifcaaGreat
import Derived.Test.YtflegkefgbifcaaCopy
import Derived.Test.YtflegkefgbifcaaRsame
namespace Go.Proofs.Ytflegkefgbifcaa
open Go.RowKit

/-- v is a slice of the call's own that may be written over, or none. -/
def Sp (B : Nat) (w : World) (v : Value) : Prop := (v = .slice none 0 0) ∨ ∃ g n c cs e, v = .slice (some ⟨g, 0, none⟩) n c ∧ B ≤ g ∧ w.heap[g]? = some (.cells cs e (0, 0)) ∧ n ≤ cs.size ∧ n ≤ c ∧ n ≤ 140737488355328
theorem Sp.below {B : Nat} {w w' : World} {v : Value} (h : Sp B w v) (hb : Below w.heap.size w w') : Sp B w' v := by
  rcases h with h | ⟨g, n, c, cs, e, hv, hB, hh, h1, h2, h3⟩
  · exact .inl h
  · exact .inr ⟨g, n, c, cs, e, hv, hB, (hb.block g (lt_of_heap hh)).trans hh, h1, h2, h3⟩
theorem Sp.mono {B B' : Nat} {w : World} {v : Value} (h : Sp B w v) (hB : B' ≤ B) : Sp B' w v := by
  rcases h with h | ⟨g, n, c, cs, e, hv, hg, hh⟩
  · exact .inl h
  · exact .inr ⟨g, n, c, cs, e, hv, Nat.le_trans hB hg, hh⟩
theorem Num.sp {t : TypeId} {B V : Nat} {w : World} {v : Value} (h : Num t B w V v) : Sp B w v := by
  obtain ⟨A, k, c, f, rfl, hm, _, _⟩ := h
  rcases hm.own with ⟨rfl, rfl, rfl⟩ | ⟨g, cs, rfl, hg, hh, hs, hc⟩
  · exact .inl rfl
  · exact .inr ⟨g, k, c, cs, t, rfl, hg, hh, Nat.le_trans hm.cap hs, hm.cap, hm.max⟩

set_option maxHeartbeats 800000 in
theorem spoil_size (g n c B : Nat) (cs : Array Value) (e : TypeId) (w : World) (hh : w.heap[g]? = some (.cells cs e (0, 0))) (hn : n ≤ cs.size) (hc : n ≤ c) (hm : n ≤ 140737488355328) (hg : B ≤ g) :
    Calls Try.prog 11 #[.slice (some ⟨g, 0, none⟩) n c] w fun e' w' => e' = .returned (.tuple #[]) ∧ Below B w w' ∧ (∀ i, i ≠ g → w'.heap[i]? = w.heap[i]?) ∧ ∃ cs' : Array Value, w'.heap[g]? = some (.cells cs' e (0, 0)) ∧ cs'.size = cs.size := by
  have HH := hid hh
  clear hh
  go_enter Try.func11, Try.ntmps11
  go_wp2
  go_loopw [2] (fun i wr => ∃ k : Nat, k ≤ n ∧ i = .int .i64 k ∧ Hid (∃ cs' : Array Value, wr.heap[g]? = some (.cells cs' e (0, 0)) ∧ cs'.size = cs.size) ∧ Hid (Below B w wr) ∧ Hid (∀ i, i ≠ g → wr.heap[i]? = w.heap[i]?)) (fun i _ => n - (intOf i).toNat)
  case atStart => exact ⟨0, Nat.zero_le _, rfl, ⟨cs, HH.out, rfl⟩, Below.refl _ _, hid fun _ _ => rfl⟩
  case round =>
    obtain ⟨k, hk, rfl, Hcs, hbel, hoth⟩ := hrel
    by_cases hkn : k < n
    · have hcell : ∃ u, wr.cell? ⟨g, k, none⟩ = some u := by
        obtain ⟨cs', h1, h2⟩ := Hcs.out
        refine ⟨cs'[k], ?_⟩
        rw [cell_of_row wr g k cs' e (0, 0) h1, Array.getElem?_eq_getElem (by omega)]
      have hfr : wr.frozen? ⟨g, k, none⟩ = false := by
        obtain ⟨cs', h1, h2⟩ := Hcs.out
        exact frozen_of_row wr g k cs' e h1
      have Hcs2 : Hid (∃ cs' : Array Value, (wr.setCell ⟨g, k, none⟩ (.int .u32 7)).heap[g]? = some (.cells cs' e (0, 0)) ∧ cs'.size = cs.size) := by
        obtain ⟨cs', h1, h2⟩ := Hcs.out
        exact ⟨_, heap_setCell_same wr g k cs' e _ h1, by simpa using h2⟩
      have hbel2 := hid (hbel.out.setCell (p := ⟨g, k, none⟩) hg (.int .u32 7))
      have hoth2 := hid (fun i (hi : i ≠ g) => (Below.heap_setCell wr ⟨g, k, none⟩ (.int .u32 7) i hi).trans (hoth.out i hi))
      obtain ⟨u, hcell⟩ := hcell
      clear Hcs hbel hoth
      go_wp2
      go_roundw
      case rel => exact ⟨k + 1, by omega, by go_num, Hcs2, hbel2, hoth2⟩
      case measure => simp [intOf]; omega
    · obtain rfl : k = n := by omega
      go_wp2
      go_end0
      exact ⟨rfl, hbel.out, hoth.out, Hcs.out⟩

theorem spoil_sp {B : Nat} {w : World} {v : Value} (h : Sp B w v) : Calls Try.prog 11 #[v] w fun e w' => e = .returned (.tuple #[]) ∧ Hid (Below B w w') ∧ Hid (∀ C u, Sp C w u → Sp C w' u) := by
  rcases h with rfl | ⟨g, n, c, cs, e, rfl, hB, hh, h1, h2, h3⟩
  · refine (spoil_nil 0 w).mono ?_
    rintro e w' ⟨rfl, rfl⟩
    exact ⟨rfl, Below.refl _ _, fun _ _ h => h⟩
  · refine (spoil_size g n c B cs e w hh h1 h2 h3 hB).mono ?_
    rintro e' w' ⟨rfl, hb, ho, cs', hs, hsz⟩
    refine ⟨rfl, hb, fun C u hu => ?_⟩
    rcases hu with hu | ⟨g', n', c', cs2, e2, hv, hC, hh2, k1, k2, k3⟩
    · exact .inl hu
    · by_cases hg : g' = g
      · subst hg
        rw [hh] at hh2
        injection hh2 with hh2
        injection hh2 with e1 e2
        subst e1 e2
        exact .inr ⟨g', n', c', cs', _, hv, hC, hs, by omega, k2, k3⟩
      · exact .inr ⟨g', n', c', cs2, e2, hv, hC, (ho g' hg).trans hh2, k1, k2, k3⟩

theorem Ans.told {w w' : World} {er : Int} {V : Nat} {e : Ending} (h : Ans 50 w er V e w') : ∃ v, e = .returned (.tuple #[v, .int .i64 er]) ∧ Hid (Val w' (resV er V) v) ∧ Hid (Sp w.heap.size w' v) ∧ Hid (Below w.heap.size w w') := by
  obtain ⟨hb, v, rfl, hg, hn⟩ := h
  refine ⟨v, rfl, ?_, ?_, hb⟩
  · by_cases he : er = 0
    · rw [resV_ok he]; exact (hg he).val
    · rw [resV_bad he, hn he]; exact Val.nil _
  · by_cases he : er = 0
    · exact (hg he).sp
    · exact .inl (hn he)
theorem DivPost.told {w w' : World} {n m : Nat} {f h : Nat → Nat} {e : Ending} (hd : DivPost w n f m h e w') : ∃ v1 v2, e = .returned (.tuple #[v1, v2, .int .i64 (divErr n f m h)]) ∧ Hid (Val w' (resV (divErr n f m h) (vl f n / vl h m)) v1) ∧ Hid (Val w' (resV (divErr n f m h) (vl f n % vl h m)) v2) ∧ Hid (Sp w.heap.size w' v1) ∧ Hid (Sp w.heap.size w' v2) ∧ Hid (Below w.heap.size w w') := by
  obtain ⟨hb, v1, v2, rfl, hg, hn⟩ := hd
  by_cases he : divErr n f m h = 0
  · refine ⟨v1, v2, rfl, ?_, ?_, (hg he).1.sp, (hg he).2.sp, hb⟩
    · rw [resV_ok he]; exact (hg he).1.val
    · rw [resV_ok he]; exact (hg he).2.val
  · obtain ⟨rfl, rfl⟩ := hn he
    refine ⟨_, _, rfl, ?_, ?_, .inl rfl, .inl rfl, hb⟩
    · rw [resV_bad he]; exact Val.nil _
    · rw [resV_bad he]; exact Val.nil _

set_option maxHeartbeats 12800000 in
set_option maxRecDepth 1000000 in
theorem times_walk {A D : Option Addr} {n c m d : Nat} {f h : Nat → Nat} {w : World} (ha : Rd w w.heap.size A n c f) (hnil : A = none → n = 0 ∧ c = 0) (hb : Rd w w.heap.size D m d h) (hnil2 : D = none → m = 0 ∧ d = 0) :
    Calls Try.prog 3 #[.slice A n c, .slice D m d] w fun e w' => e = .returned (.bool true) ∧ Below w.heap.size w w' := by
  have hac := ha.cap
  have ham := ha.max
  have hbc := hb.cap
  have hbm := hb.max
  have Ha := hid ha
  have Hb := hid hb
  have Hnil := hid hnil
  have Hnil2 := hid hnil2
  clear ha hb hnil hnil2
  have Cg := hid (great_any A n c w (by omega))
  have Cg2 := hid (great_any D m d w (by omega))
  by_cases hn : (42 : Int) < (n : Int)
  · rw [decide_eq_true hn] at Cg
    go_enter Try.func3, Try.ntmps3
    go_wp2_with fail
    refine Cg.out.mono ?_
    rintro e w' ⟨rfl, rfl⟩
    go_wp2_with fail
    go_ret
    exact ⟨rfl, Below.refl _ _⟩
  rw [decide_eq_false hn] at Cg
  by_cases hm : (42 : Int) < (m : Int)
  · rw [decide_eq_true hm] at Cg2
    go_enter Try.func3, Try.ntmps3
    go_wp2_with fail
    refine Cg.out.mono ?_
    rintro e w' ⟨rfl, rfl⟩
    go_wp2_with fail
    refine Cg2.out.mono ?_
    rintro e w' ⟨rfl, rfl⟩
    go_wp2_with fail
    go_ret
    exact ⟨rfl, Below.refl _ _⟩
  rw [decide_eq_false hm] at Cg2
  have hn42 : n ≤ 42 := by omega
  have hm42 : m ≤ 42 := by omega
  have Hcells := hid (cells_of_rd Ha.out)
  go_enter Try.func3, Try.ntmps3
  go_wp2_with fail
  refine Cg.out.mono ?_
  rintro e w' ⟨rfl, rfl⟩
  go_wp2_with fail
  refine Cg2.out.mono ?_
  rintro e w' ⟨rfl, rfl⟩
  go_wp2_with (first | (at_builtin; refine wpList_append_copy rfl (.tmp 24) (.tmp 25) 22 rfl 50 (.int .u32 0) 4 Try.underlying22 info_u32 rfl (by decide) rfl rfl (by simp) Hnil.out Hcells.out (by simp; intros; subst_vars; rfl) (by omega) ?_; intro v1 w1 hown1 hbel1; have Hcells2 := hid (cells_of_rd (Hb.out.below hbel1.out))) | (at_builtin; refine wpList_append_copy rfl (.tmp 27) (.tmp 28) 22 rfl 50 (.int .u32 0) 4 Try.underlying22 info_u32 rfl (by decide) rfl rfl (by simp) Hnil2.out Hcells2.out (by simp; intros; subst_vars; rfl) (by omega) ?_; intro v2 w2 hown2 hbel2) | fail)
  obtain ⟨A1, c1, rfl, hr1⟩ := rd_of_row hown1.out ham Ha.out.lt Ha.out.out
  obtain ⟨D1, d1, rfl, hr2⟩ := rd_of_row hown2.out hbm Hb.out.lt Hb.out.out
  have W2 := hid (hbel1.out.trans (hbel2.out.mono hbel1.out.size))
  have Ho := hid ((hr1.below hbel2.out).mono hbel2.out.size)
  have Hp := hid hr2
  have Ha2 := hid ((Ha.out.below W2.out).mono W2.out.size)
  have Hb2 := hid ((Hb.out.below W2.out).mono W2.out.size)
  clear hown1 hown2 hr1 hr2 Hcells Hcells2 Cg Cg2 Hnil Hnil2 Ha Hb hbel1 hbel2
  -- limb.Mul, headcountref01.Mul
  have C3 := hid (mul_any Ho.out Hp.out)
  refine C3.out.mono ?_
  rintro e w3 h3
  obtain ⟨x1, rfl, Vx, Sx, B3⟩ := h3.told
  clear C3 h3
  have C4 := hid (rMul_any ((Ha2.out.below B3.out).mono B3.out.size) ((Hb2.out.below B3.out).mono B3.out.size) hn42 hm42)
  go_wp2_with fail
  refine C4.out.mono ?_
  rintro e w4 ⟨y1, _, rfl, ⟨rfl⟩, Vy, b4⟩
  have B4 := hid (B3.out.trans (b4.out.mono B3.out.size))
  have Vx := hid (Vx.out.below b4.out)
  have Sx := hid ((Sx.out.below b4.out).mono (Nat.le_refl _))
  clear C4 b4 B3
  -- limb.Div, headcountref01.Div
  have C5 := hid (div_any ((Ho.out.below B4.out).mono B4.out.size) ((Hp.out.below B4.out).mono B4.out.size))
  go_wp2_with fail
  refine C5.out.mono ?_
  rintro e w5 h5
  obtain ⟨q1, r1, rfl, Vq, Vr, Sq, Sr, b5⟩ := h5.told
  have B5 := hid (B4.out.trans (b5.out.mono B4.out.size))
  have Vx := hid (Vx.out.below b5.out)
  have Vy := hid (Vy.out.below b5.out)
  have Sx := hid (Sx.out.below b5.out)
  have Sq := hid (Sq.out.mono B4.out.size)
  have Sr := hid (Sr.out.mono B4.out.size)
  clear h5 b5 C5 B4
  have C6 := hid (rDiv_any ((Ha2.out.below B5.out).mono B5.out.size) ((Hb2.out.below B5.out).mono B5.out.size) hn42 hm42)
  go_wp2_with fail
  refine C6.out.mono ?_
  rintro e w6 ⟨p1, s1, rfl, Vp, Vs, b6⟩
  have B6 := hid (B5.out.trans (b6.out.mono B5.out.size))
  have Vx := hid (Vx.out.below b6.out)
  have Vy := hid (Vy.out.below b6.out)
  have Vq := hid (Vq.out.below b6.out)
  have Vr := hid (Vr.out.below b6.out)
  have Sx := hid (Sx.out.below b6.out)
  have Sq := hid (Sq.out.below b6.out)
  have Sr := hid (Sr.out.below b6.out)
  clear C6 b6 B5
  generalize mulErr n f m h = e1 at *
  generalize divErr n f m h = e2 at *
  -- Same(x, y)
  have E1 := hid (rsame_val Vx.out Vy.out)
  go_wp2_with fail
  refine E1.out.mono ?_
  rintro e w7 ⟨rfl, k1, hk1⟩
  have Q7 : Hid (Below w6.heap.size w6 w7) := by subst hk1; exact below_drewN (Below.refl _ _) k1
  clear E1 hk1 Vx Vy
  have E2 := hid (rsame_val (Vq.out.below Q7.out) (Vp.out.below Q7.out))
  go_wp2_with fail
  refine E2.out.mono ?_
  rintro e w8 ⟨rfl, k2, hk2⟩
  have Q8 : Hid (Below w6.heap.size w6 w8) := by subst hk2; exact below_drewN Q7.out k2
  clear E2 hk2 Vq Vp Q7
  have E3 := hid (rsame_val (Vr.out.below Q8.out) (Vs.out.below Q8.out))
  go_wp2_with fail
  refine E3.out.mono ?_
  rintro e w9 ⟨rfl, k3, hk3⟩
  have Q9 : Hid (Below w6.heap.size w6 w9) := by subst hk3; exact below_drewN Q8.out k3
  have B9 := hid (B6.out.trans (Q9.out.mono B6.out.size))
  have Sx := hid (Sx.out.below Q9.out)
  have Sq := hid (Sq.out.below Q9.out)
  have Sr := hid (Sr.out.below Q9.out)
  clear E3 hk3 Vr Vs Q8 Q9 B6
  -- spoil(x), spoil(q), spoil(r)
  have F1 := hid (spoil_sp Sx.out)
  go_wp2_with fail
  refine F1.out.mono ?_
  rintro e w10 ⟨rfl, b10, o10⟩
  have B10 := hid (B9.out.trans b10.out)
  have Sq := hid (o10.out _ _ Sq.out)
  have Sr := hid (o10.out _ _ Sr.out)
  clear F1 b10 o10 B9 Sx
  have F2 := hid (spoil_sp Sq.out)
  go_wp2_with fail
  refine F2.out.mono ?_
  rintro e w11 ⟨rfl, b11, o11⟩
  have B11 := hid (B10.out.trans b11.out)
  have Sr := hid (o11.out _ _ Sr.out)
  clear F2 b11 o11 B10 Sq
  have F3 := hid (spoil_sp Sr.out)
  go_wp2_with fail
  refine F3.out.mono ?_
  rintro e w12 ⟨rfl, b12, o12⟩
  have B12 := hid (B11.out.trans b12.out)
  clear F3 b12 o12 B11 Sr
  -- Same(own, a), Same(other, b)
  have D5 := hid (rsame_any (Ho.out.below B12.out) (Ha2.out.below B12.out))
  go_wp2_with fail
  refine D5.out.mono ?_
  rintro e w19 ⟨r1, rfl, hr1, q7, hq7⟩
  obtain rfl : r1 = true := by simpa using hr1
  have B19 : Hid (Below w2.heap.size w2 w19) := by subst hq7; exact below_drewN B12.out q7
  clear hr1 D5 hq7 B12
  have D6 := hid (rsame_any (Hp.out.below B19.out) (Hb2.out.below B19.out))
  go_wp2_with fail
  refine D6.out.mono ?_
  rintro e w20 ⟨r2, rfl, hr2, q8, hq8⟩
  obtain rfl : r2 = true := by simpa using hr2
  have B20 : Hid (Below w2.heap.size w2 w20) := by subst hq8; exact below_drewN B19.out q8
  clear hr2 D6 hq8 B19
  go_wp2_with fail
  go_ret
  exact ⟨rfl, W2.out.trans (B20.out.mono W2.out.size)⟩
end Go.Proofs.Ytflegkefgbifcaa
