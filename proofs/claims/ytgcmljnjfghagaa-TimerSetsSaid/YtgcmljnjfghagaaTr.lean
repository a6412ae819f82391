/- The queue as a heap's own. -/
import Derived.Test.YtgcmljnjfghagaaTq
namespace Go.Proofs.Ytgcmljnjfghagaa.Tm
open Go.RowKit Go.Shelf Go.Lib
set_option maxRecDepth 100000

/-- A queue in block g, of the call's own from block B on, whose row v holds l. -/
structure Qu (w : World) (B g : Nat) (v : Value) (l : List De) : Prop where
  box : w.heap[g]? = some (.cells #[v] 70 (0, 0))
  od : Od w B v l
  le : B ≤ g
  ne : v.ownBlock ≠ some g
theorem Od.row_len {w : World} {B n c : Nat} {A : Option Addr} {l : List De} (h : Od w B (.slice A n c) l) : l.length = n := by
  obtain ⟨A', c', e, _⟩ := h.form
  injection e with _ e2 _
  exact e2.symm
theorem Od.ds {w : World} {B n c : Nat} {A : Option Addr} {l : List De} (h : Od w B (.slice A n c) l) : Ds w w.heap.size A n c l := by
  obtain ⟨A', c', e, hD, _⟩ := h.form
  injection e with e1 e2 e3
  subst e1 e2 e3
  exact hD
theorem Qu.c0 {w : World} {B g : Nat} {v : Value} {l : List De} (h : Qu w B g v l) : w.cell? ⟨g, 0, none⟩ = some v := (cell_of_row w g 0 _ _ (0, 0) h.box).trans rfl
theorem Qu.below {w w' : World} {B g : Nat} {v : Value} {l : List De} (h : Qu w B g v l) (hb : Below w.heap.size w w') : Qu w' B g v l := ⟨(hb.block g (lt_of_heap h.box)).trans h.box, h.od.below hb, h.le, h.ne⟩

/-- The row was turned where it lies. -/
theorem Qu.turned {w w' : World} {B g : Nat} {v : Value} {l l' : List De} (h : Qu w B g v l) (ho : Od w' B v l') (hg : w.grownBy w' v.ownBlock) : Qu w' B g v l' := ⟨(hg.block g (lt_of_heap h.box) (fun e => h.ne e.symm)).trans h.box, ho, h.le, h.ne⟩
theorem Qu.turned_below {w w' : World} {B g : Nat} {v : Value} {l : List De} (h : Qu w B g v l) (hg : w.grownBy w' v.ownBlock) : Below B w w' :=
  ⟨hg.os, hg.tape, hg.output, hg.size, fun k hk => hg.block k (Nat.lt_trans (Nat.lt_of_lt_of_le hk h.le) (lt_of_heap h.box)) (fun e => by have := (own_lt h.od k e.symm).1; omega)⟩
theorem meth_row {w : World} {g n c F : Nat} {A : Option Addr} {name : String} (hF : 0 < F) (f : FuncId) (hm : ((Try.prog.info? 53).bind (fun i => i.methods.find? (·.name == name))).map (fun m => (m.path, m.func)) = some (#[⟨70, 0, true⟩], some (f, false)))
    (hc : w.cell? ⟨g, 0, none⟩ = some (.slice A n c)) : (method F 53 (.pointer (some ⟨g, 0, none⟩)) name).run Try.prog w = .ok (f, .slice A n c) w := by
  obtain ⟨k, rfl⟩ : ∃ k, F = k + 1 := ⟨F - 1, by omega⟩
  have u1 := Try.underlying70
  have u2 := Try.underlying68
  have z2 := Try.sizeOf68
  have a2 := Try.isAgg68
  cases hi : Try.prog.info? 53 with
  | none => rw [hi] at hm; cases hm
  | some i0 =>
    rw [hi] at hm
    obtain ⟨m, hm, hpf⟩ := Option.map_eq_some_iff.1 hm
    have hm : i0.methods.find? (·.name == name) = some m := hm
    injection hpf with hp hf
    have hinfo : (typeInfo 53).run Try.prog w = .ok i0 w := by simp [typeInfo, hi]
    have hfol : (follow [⟨70, 0, true⟩] 53 (.val (.pointer (some ⟨g, 0, none⟩)))).run Try.prog w = .ok (68, .var ⟨g, 0, none⟩) w := by
      simp only [follow, Place.get, asAddr, fieldPlace, Sem.run_bind, Result.andThen_ok, run_underlying u1]
      go_simp
    have hrec : (receiverAt 68 (.var ⟨g, 0, none⟩) false none).run Try.prog w = .ok (.slice A n c) w := by
      simp only [receiverAt, Place.get, Sem.run_bind, Result.andThen_ok, run_underlying u2]
      go_simp
    unfold method
    simp only [Sem.run_bind, hinfo, Result.andThen_ok, hm, hp, hf]
    rw [hfol]
    simp only [Result.andThen_ok]
    rw [if_neg (by decide), hrec]
    rfl
theorem meth_ptr {w : World} {a : Addr} {F : Nat} {name : String} (hF : 0 < F) (f : FuncId) (hm : ((Try.prog.info? 53).bind (fun i => i.methods.find? (·.name == name))).map (fun m => (m.path, m.func)) = some (#[], some (f, true))) :
    (method F 53 (.pointer (some a)) name).run Try.prog w = .ok (f, .pointer (some a)) w := by
  obtain ⟨k, rfl⟩ : ∃ k, F = k + 1 := ⟨F - 1, by omega⟩
  have u1 := Try.underlying53
  cases hi : Try.prog.info? 53 with
  | none => rw [hi] at hm; cases hm
  | some i0 =>
    rw [hi] at hm
    obtain ⟨m, hm, hpf⟩ := Option.map_eq_some_iff.1 hm
    have hm : i0.methods.find? (·.name == name) = some m := hm
    injection hpf with hp hf
    have hinfo : (typeInfo 53).run Try.prog w = .ok i0 w := by simp [typeInfo, hi]
    have hrec : ∀ o, (receiverAt 53 (.val (.pointer (some a))) true o).run Try.prog w = .ok (.pointer (some a)) w := fun o => by
      simp only [receiverAt, Place.get, Sem.run_bind, Result.andThen_ok, run_underlying u1]
      go_simp
    unfold method
    simp only [Sem.run_bind, hinfo, Result.andThen_ok, hm, hp, hf, follow, Sem.run_pure, hrec]
theorem meth_len {w : World} {g n c F : Nat} {A : Option Addr} (hF : 0 < F) (hc : w.cell? ⟨g, 0, none⟩ = some (.slice A n c)) : (method F 53 (.pointer (some ⟨g, 0, none⟩)) "Len").run Try.prog w = .ok (49, .slice A n c) w :=
  meth_row hF 49 (by kernel_rfl) hc
theorem meth_less {w : World} {g n c F : Nat} {A : Option Addr} (hF : 0 < F) (hc : w.cell? ⟨g, 0, none⟩ = some (.slice A n c)) : (method F 53 (.pointer (some ⟨g, 0, none⟩)) "Less").run Try.prog w = .ok (70, .slice A n c) w :=
  meth_row hF 70 (by kernel_rfl) hc
theorem meth_swap {w : World} {g n c F : Nat} {A : Option Addr} (hF : 0 < F) (hc : w.cell? ⟨g, 0, none⟩ = some (.slice A n c)) : (method F 53 (.pointer (some ⟨g, 0, none⟩)) "Swap").run Try.prog w = .ok (72, .slice A n c) w :=
  meth_row hF 72 (by kernel_rfl) hc
theorem meth_push {w : World} {a : Addr} {F : Nat} (hF : 0 < F) : (method F 53 (.pointer (some a)) "Push").run Try.prog w = .ok (47, .pointer (some a)) w :=
  meth_ptr hF 47 (by kernel_rfl)
theorem meth_pop {w : World} {a : Addr} {F : Nat} (hF : 0 < F) : (method F 53 (.pointer (some a)) "Pop").run Try.prog w = .ok (71, .pointer (some a)) w :=
  meth_ptr hF 71 (by kernel_rfl)
set_option maxHeartbeats 1600000 in
theorem up_any {w : World} {B g j : Nat} {v : Value} {l : List De} (h : Qu w B g v l) (hj : j < l.length) (hi : UpI l j) :
    Calls Try.prog 51 #[.iface 53 (.pointer (some ⟨g, 0, none⟩)), .int .i64 j] w fun e w' => e = .returned (.tuple #[]) ∧ Hid (∃ l', Qu w' B g v l' ∧ l'.Perm l ∧ Hn l' l'.length ∧ Below B w w') := by
  obtain ⟨A, c, rfl, hD, hcm, hob⟩ := h.od.form
  have HI := hid hi
  have HJ := hid hj
  have HQ := hid h
  obtain ⟨n, hn⟩ : ∃ n, n = l.length := ⟨_, rfl⟩
  have HN := hid hn
  rw [← hn] at HQ HJ ⊢
  have hm : n ≤ 100000 := by rw [hn]; exact h.od.max
  clear h hj hi hD hob hn
  go_enter Try.func51, Try.ntmps51
  go_wp2
  go_loopg [1, 4] n (fun gg s1 _ wr => ∃ (k : Nat) (r : List De), s1 = .int .i64 k ∧ k < n ∧ k ≤ gg ∧ Hid (Qu wr B g (.slice A n c) r) ∧ Hid (r.Perm l) ∧ Hid (UpI r k) ∧ Hid (Below B w wr))
  case atStart => exact ⟨j, l, rfl, HJ.out, Nat.le_of_lt HJ.out, HQ, hid (List.Perm.refl _), HI, hid (Below.refl _ w)⟩
  case round =>
    obtain ⟨k, r, rfl, hk, hkg, HQ, HP, HU, BW⟩ := hrel
    have c0 := HQ.out.c0
    rcases Nat.eq_zero_or_pos k with hk0 | hk0
    case inr =>
      obtain ⟨m, rfl⟩ : ∃ m, k = m + 1 := ⟨k - 1, by omega⟩
      clear hk0
      obtain ⟨q, hq⟩ : ∃ q, q = m / 2 := ⟨_, rfl⟩
      have hqz : (m : Int) / 2 = (q : Int) := by omega
      have hq1 := hid (show q = (m + 1 - 1) / 2 from hq)
      have hqm := hid (show q ≤ m by omega)
      have hne : ((q : Int) == ((m : Int) + 1)) = false := by simp; omega
      clear hq
      have hrl : r.length = n := HQ.out.od.row_len
      obtain ⟨x, hx⟩ : ∃ x, r[q]? = some x := ⟨_, List.getElem?_eq_getElem (by have := hqm.out; omega)⟩
      obtain ⟨y, hy⟩ : ∃ y, r[m + 1]? = some y := ⟨_, List.getElem?_eq_getElem (by omega)⟩
      have CL : Hid (Calls Try.prog 70 #[.slice A n c, .int .i64 ((m : Int) + 1), .int .i64 q] wr (Tel wr (ah y x))) := hid (less_any (w := wr) HQ.out.od.ds (Nat.le_refl _) hy hx)
      generalize hr : ah y x = rr at CL
      have HX := hid (And.intro hx (And.intro hy hr))
      unfold Tel at CL
      clear hx hy hr hrl
      cases rr with
      | false =>
        go_wp2_with (first
          | rw [meth_less (by decide) c0]
          | (go_at_call 70; with_reducible refine CL.out.mono ?_; rintro e w' ⟨rfl, hb⟩)
          | fail)
        go_end0
        exact ⟨rfl, hid ⟨r, HQ.out.below hb.out, HP.out, up_stop HU.out hq1.out HX.out.1 HX.out.2.1 HX.out.2.2, BW.out.trans (hb.out.mono (Nat.le_trans (Nat.le_of_lt (lt_of_heap HQ.out.box |> Nat.lt_of_le_of_lt HQ.out.le)) (Nat.le_refl _)))⟩⟩
      | true =>
        have CS : Hid (∀ X, Below wr.heap.size wr X → Calls Try.prog 72 #[.slice A n c, .int .i64 q, .int .i64 ((m : Int) + 1)] X fun e w' => e = .returned (.tuple #[]) ∧ Hid (Od w' B (.slice A n c) (sw r q (m + 1) x y) ∧ X.grownBy w' (Value.slice A n c).ownBlock)) := hid fun X hb => swap_any (w := X) (HQ.out.od.below hb) HX.out.1 HX.out.2.1
        go_wp2_with (first
          | rw [meth_less (by decide) c0]
          | (go_at_call 70; with_reducible refine CL.out.mono ?_; rintro e w2 ⟨rfl, hb⟩; have c2 := (HQ.out.below hb.out).c0; have CS2 := hid (CS.out w2 hb.out))
          | rw [meth_swap (by decide) c2]
          | (go_at_call 72; with_reducible refine CS2.out.mono ?_; rintro e w3 ⟨rfl, hs⟩)
          | fail)
        go_roundg q
        case measure => have := hqm.out; omega
        case rel =>
          have := hqm.out
          have Q2 := HQ.out.below hb.out
          refine ⟨q, sw r q (m + 1) x y, rfl, by omega, by omega, hid (Q2.turned hs.out.1 hs.out.2), hid ((sw_perm HX.out.1 HX.out.2.1).trans HP.out), hid (up_step HU.out (by omega) hq1.out HX.out.1 HX.out.2.1 HX.out.2.2), hid ?_⟩
          have hBw : B ≤ wr.heap.size := Nat.le_of_lt (Nat.lt_of_le_of_lt HQ.out.le (lt_of_heap HQ.out.box))
          exact (BW.out.trans (hb.out.mono hBw)).trans (Q2.turned_below hs.out.2)
    · subst hk0
      go_wp2
      go_end0
      exact ⟨rfl, hid ⟨r, HQ.out, HP.out, up_zero HU.out, BW.out⟩⟩
end Go.Proofs.Ytgcmljnjfghagaa.Tm
