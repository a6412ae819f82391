/- slices.Backward over limbs. -/
/- Package ratio: below. -/
/- Package ratio: next. -/
import Derived.RangeFuncNested
import Derived.RangeFuncBound
import Derived.RangeFuncCalls
import Derived.RangeFuncLeaves
import Derived.RangeFuncBox
import Derived.Shelf.Abstract
import Derived.Shelf.RegionOpen
import Derived.WalkKit
import Derived.OwnWalkIn
import Derived.TacticsInMore
import Derived.LoopNIn
import Derived.LoopIn
import Derived.Test.YtnhnddhigbbleaaDoorRd
import Derived.Test.YtnhnddhigbbleaaDoorRh

namespace Go.Proofs.YtnhnddhigbbleaaDoor
open Go.RowKit Go.Shelf
attribute [local go_sem] Oper.semAt_some

def upto {α : Type} (f : Nat → α) (k : Nat) : List α := (List.range k).map f
theorem upto_succ {α : Type} (f : Nat → α) (k : Nat) : upto f (k + 1) = upto f k ++ [f k] := by simp [upto, List.range_succ]
theorem upto_length {α : Type} (f : Nat → α) (k : Nat) : (upto f k).length = k := by simp [upto]

/-- A place among m. -/
abbrev Idx (m : Nat) := { j : Nat // j < m }
/-- The place that comes at round k. -/
def bkw (m k : Nat) : Nat := m - 1 - k

set_option maxRecDepth 100000 in
set_option maxHeartbeats 2000000 in
theorem back1_in (F : Fence) (n : Nat) (h1 : F.fn 76) (hro : F.round = none) (hn : 1 ≤ n) (l Bs n₀ m c : Nat) (A : Option Addr) (f : Nat → Nat) (hBn : Bs < n₀) (J Jx : List (Idx m) → World → Prop)
    (hY : ∀ pre x W, J pre W → pre.length < m → YieldAt F (n - 1) Tryd.prog l #[.int .i64 (x.1 : Int), .int .u32 (f x.1 : Int)] W fun e W' =>
      (e = .returned (.bool true) ∧ J (pre ++ [x]) W' ∧ Below n₀ W W') ∨ (e = .returned (.bool false) ∧ Jx (pre ++ [x]) W'))
    (W : World) (hBs : W.cell? ⟨Bs, 0, none⟩ = some (.slice A m c)) (hr : Rd W n₀ A m c f) (h0 : J [] W) :
    CallsIn F n Tryd.prog 76 #[.func (.yield l) #[] #[], .pointer (some ⟨Bs, 0, none⟩)] W fun e W' => (∃ v, e = .returned v) ∧
      ((∃ ys : List (Idx m), ys.map (·.1) = upto (bkw m) m ∧ J ys W') ∨ (∃ pre : List (Idx m), (∃ k, k ≤ m ∧ pre.map (·.1) = upto (bkw m) k) ∧ Jx pre W')) := by
  have hcap := hr.cap
  have hmax := hr.max
  have hwm : IntKind.i64.wrap ((m : Int) - 1) = (m : Int) - 1 := IntWalk.i64_in _ (by omega)
  refine callsIn_of_wp Tryd.func76 rfl h1 ?_ hro
  simp only [Tryd.ntmps76, List.size_toArray, List.length_cons, List.length_nil, Nat.reduceAdd, Nat.reduceSub, Array.replicate_succ, Array.replicate_zero, List.push_toArray, List.append_toArray, List.nil_append, List.cons_append]
  gi_wp2
  gi_loopw [3] (fun i wr => ∃ (d k : Nat) (pre : List (Idx m)), d + k = m ∧ i = .int .i64 ((d : Int) - 1) ∧ pre.map (·.1) = upto (bkw m) k ∧ J pre wr ∧ Below n₀ W wr)
    (fun i _ => (intOf i + 1).toNat)
  case atStart => exact ⟨m, 0, [], rfl, rfl, rfl, h0, Below.refl _ _⟩
  case round =>
    obtain ⟨d, k, pre, hk, rfl, hpre, hJs, hnx⟩ := hrel
    have hbx : wr.cell? ⟨Bs, 0, none⟩ = some (.slice A m c) := (hnx.cell (p := ⟨Bs, 0, none⟩) hBn).trans hBs
    cases d with
    | succ d =>
      have hd1 : ((d + 1 : Nat) : Int) - 1 = (d : Int) := by omega
      rw [hd1]
      have hdm : d < m := by omega
      have hdi : (0 : Int) ≤ (d : Int) := by omega
      have hwd : IntKind.i64.wrap ((d : Int) - 1) = (d : Int) - 1 := IntWalk.i64_in _ (by omega)
      have hg := hr.below hnx
      obtain ⟨b, off, rfl, hbB, hc⟩ := hg.at_ (by omega)
      have hcx := hc d hdm
      obtain ⟨fn, tmps, assign, body, hy, hR⟩ := hY pre ⟨d, hdm⟩ wr hJs (by have h := congrArg List.length hpre; rw [upto_length, List.length_map] at h; omega)
      dsimp only at hy
      have hb : (pre ++ [(⟨d, hdm⟩ : Idx m)]).map (·.1) = upto (bkw m) (k + 1) := by
        rw [List.map_append, hpre, upto_succ]
        show _ ++ [d] = _ ++ [bkw m k]
        rw [show bkw m k = d by unfold bkw; omega]
      gi_wp2
      refine hR.mono ?_
      rintro e W3 (⟨rfl, hJ3, hk3⟩ | ⟨rfl, hJx3⟩)
      · gi_wp2
        go_roundw
        case rel => exact ⟨d, k + 1, _, by omega, rfl, hb, hJ3, hnx.trans hk3⟩
        case measure => simp [intOf]
      · gi_wp2
        refine bodyPost_ret (results_none rfl _ _ _) rfl ?_
        exact ⟨⟨_, rfl⟩, .inr ⟨_, ⟨k + 1, by omega, hb⟩, hJx3⟩⟩
    | zero =>
      obtain rfl : k = m := by omega
      have hd1 : ((0 : Nat) : Int) - 1 = -1 := rfl
      rw [hd1]
      gi_wp2
      go_end0
      exact ⟨⟨_, rfl⟩, .inl ⟨_, hpre, hJs⟩⟩

set_option maxHeartbeats 1000000 in
theorem back_in (F : Fence) (n : Nat) (h1 : F.fn 64) (hro : F.round = none) (a : Option Addr) (len cap : Nat) (w : World) :
    CallsIn F n Tryd.prog 64 #[.slice a len cap] w fun e w' => e = .returned (.func (.func 76) #[] #[.pointer (some ⟨w.heap.size, 0, none⟩)]) ∧ w' = w.alloc (.cells #[.slice a len cap] 22) := by
  refine callsIn_of_wp Tryd.func64 rfl h1 ?_ hro
  simp only [Tryd.ntmps64, List.size_toArray, List.length_cons, List.length_nil, Nat.reduceAdd, Nat.reduceSub, Array.replicate_succ, Array.replicate_zero, List.push_toArray, List.append_toArray, List.nil_append, List.cons_append]
  gi_wp2
  go_ret
  exact ⟨rfl, rfl⟩

theorem back_stops (F : Fence) (n : Nat) (h1 : F.fn 76) (hro : F.round = none) (hn : 1 ≤ n) (Bs n₀ m c : Nat) (A : Option Addr) (f : Nat → Nat) (w : World) (hBn : Bs < n₀) (hn₀ : n₀ ≤ w.heap.size)
    (hc : w.cell? ⟨Bs, 0, none⟩ = some (.slice A m c)) (hr : Rd w n₀ A m c f) :
    SeqStopsK F n Tryd.prog 76 #[.pointer (some ⟨Bs, 0, none⟩)] (fun x : Idx m => #[Value.int .i64 (x.1 : Int), Value.int .u32 (f x.1 : Int)]) (Below n₀) (fun ys => ys.map (·.1) = upto (bkw m) m)
      (fun pre => ∃ k, k ≤ m ∧ pre.map (·.1) = upto (bkw m) k) m w := fun l J Jx W hW _ _ hY h0 =>
  back1_in F n h1 hro hn l Bs n₀ m c A f hBn J Jx hY W ((hW.cell (p := ⟨Bs, 0, none⟩) (by show Bs < _; omega)).trans hc) (hr.below (hW.mono hn₀)) h0

end Go.Proofs.YtnhnddhigbbleaaDoor


namespace Go.Proofs.YtnhnddhigbbleaaDoor
open Go.RowKit Go.Shelf
attribute [local go_sem] Oper.semAt_some

theorem mem_upto_bkw {m k j : Nat} {ys : List (Idx m)} (h : ys.map (·.1) = upto (bkw m) k) (hj : j < m) (hk : m - 1 - j < k) : ∃ p, p ∈ ys ∧ p.1 = j := by
  have h1 : j ∈ ys.map (·.1) := by
    rw [h]
    simp only [upto, List.mem_map, List.mem_range]
    exact ⟨m - 1 - j, hk, by unfold bkw; omega⟩
  obtain ⟨p, hp, e⟩ := List.mem_map.1 h1
  exact ⟨p, hp, e⟩
theorem below_all {m : Nat} {F f : Nat → Nat} {ys : List (Idx m)} (h : ys.map (·.1) = upto (bkw m) m) (hp : ∀ p ∈ ys, F (40 + p.1) = f p.1) : ¬ vl (fun i => F (40 + i)) (m + 1) < vl f m := by
  have h1 : vl (fun i => F (40 + i)) m = vl f m := vl_congr fun j hj => by
    obtain ⟨p, hm, e⟩ := mem_upto_bkw h hj (by omega)
    have := hp p hm
    rw [e] at this
    exact this
  rw [vl_succ, h1]
  omega
theorem below_at {m k : Nat} {F f : Nat → Nat} {ini : List (Idx m)} {last : Idx m} (hF : ∀ j, F j < 4294967296) (hf : ∀ j, f j < 4294967296) (h0 : F (40 + m) = 0) (h : (ini ++ [last]).map (·.1) = upto (bkw m) k) (hk : k ≤ m)
    (hp : ∀ p ∈ ini, F (40 + p.1) = f p.1) (hne : F (40 + last.1) ≠ f last.1) : F (40 + last.1) < f last.1 ↔ vl (fun i => F (40 + i)) (m + 1) < vl f m := by
  obtain ⟨k', rfl⟩ : ∃ k', k = k' + 1 := by
    cases k with
    | zero => simp [upto] at h
    | succ k' => exact ⟨k', rfl⟩
  rw [upto_succ, List.map_append] at h
  obtain ⟨h1, h2⟩ := List.append_inj' h rfl
  have h3 : last.1 = bkw m k' := by simpa using h2
  have hl := last.2
  have he : ∀ j, last.1 < j → j < m → F (40 + j) = f j := fun j hj hj2 => by
    obtain ⟨p, hm, e⟩ := mem_upto_bkw h1 hj2 (by rw [h3] at hj; unfold bkw at hj; omega)
    have := hp p hm
    rw [e] at this
    exact this
  have hz : vl (fun i => F (40 + i)) (m + 1) = vl (fun i => F (40 + i)) m := by
    rw [vl_succ]
    show _ + F (40 + m) * _ = _
    rw [h0, Nat.zero_mul, Nat.add_zero]
  rw [hz]
  constructor
  · intro hlt
    exact vl_less (f := fun i => F (40 + i)) (g := f) (k := last.1) (fun j => hF _) hlt hl he
  · intro hlt
    rcases Nat.lt_or_ge (F (40 + last.1)) (f last.1) with h5 | h5
    · exact h5
    · have := vl_less (f := f) (g := fun i => F (40 + i)) (k := last.1) hf (show f last.1 < F (40 + last.1) by omega) hl (fun j h6 h7 => (he j h6 h7).symm)
      omega
theorem below_high {m : Nat} {F f : Nat → Nat} (hf : ∀ j, f j < 4294967296) (h0 : 0 < F (40 + m)) : ¬ vl (fun i => F (40 + i)) (m + 1) < vl f m := by
  rw [vl_succ]
  have h1 := vl_lt (f := f) (k := m) (fun j _ => hf j)
  have h2 : pw m ≤ F (40 + m) * pw m := Nat.le_mul_of_pos_left _ h0
  show ¬ (_ + F (40 + m) * pw m < _)
  omega

set_option maxRecDepth 100000 in
set_option maxHeartbeats 4000000 in
theorem below_in (Fc : Fence) (N : Nat) (h0 : Fc.fn 54) (h1 : Fc.fn 64) (h2 : Fc.fn 76) (hro : Fc.round = none) (hN : 3 ≤ N)
    {w : World} {g m c : Nat} {A : Option Addr} {F f : Nat → Nat} (hb : Blk w 68 g 81 F) (hF : ∀ j, F j < 4294967296) (hr : Rd w w.heap.size A m c f) (hm : m ≤ 40) :
    CallsIn Fc N Tryd.prog 54 #[.pointer (some ⟨g, 0, none⟩), .slice A m c] w fun e w' => ∃ r : Bool, e = .returned (.bool r) ∧ (r = true ↔ vl (fun i => F (40 + i)) (m + 1) < vl f m) ∧ Below w.heap.size w w' := by
  have hN1 : 1 ≤ N := by omega
  have hcap := hr.cap
  have hgl := hb.lt
  obtain ⟨q, hq⟩ : ∃ q, q = 40 + m := ⟨_, rfl⟩
  have h40 : (40 : Int) + (m : Int) = (q : Int) := by omega
  have hq81 : q < 81 := by omega
  have hwq : IntKind.i64.wrap (q : Int) = (q : Int) := IntWalk.i64_in _ (by omega)
  obtain ⟨y, hy⟩ : ∃ y, y = F q := ⟨_, rfl⟩
  obtain ⟨W, hW⟩ : ∃ W, W = (w.alloc (.cells #[.pointer (some ⟨g, 0, none⟩)] 87)).alloc (.cells #[.bool false] 4) := ⟨_, rfl⟩
  have B0 : Below w.heap.size w W := hW ▸ ((Below.refl _ w).alloc (Nat.le_refl _) _).alloc (by simp) _
  have bP : Boxed W w.heap.size 87 (.pointer (some ⟨g, 0, none⟩)) := hW ▸ (Boxed.new w 87 (.pointer (some ⟨g, 0, none⟩))).alloc _
  have bR : Boxed W (w.heap.size + 1) 4 (.bool false) := by
    have h := Boxed.new (w.alloc (.cells #[.pointer (some ⟨g, 0, none⟩)] 87)) 4 (.bool false)
    rw [World.size_alloc] at h
    exact hW ▸ h
  have hs : W.heap.size = w.heap.size + 2 := by rw [hW]; simp
  have xP := bP.cell
  have xR := bR.cell
  have fR := bR.frozen
  have xy := (hb.below B0 hgl).cell hq81
  rw [← hy] at xy
  refine callsIn_of_wp_marks Tryd.func54 rfl h0 ?_ hro
  simp only [Tryd.ntmps54, List.size_toArray, List.length_cons, List.length_nil, Nat.reduceAdd, Nat.reduceSub, Array.replicate_succ, Array.replicate_zero, List.push_toArray, List.append_toArray, List.nil_append, List.cons_append]
  have Hq := hid hq
  have Hy := hid hy
  have Hb := hid hb
  have HF := hid hF
  have Hr := hid hr
  have HW := hid hW
  have HB0 := hid B0
  have HP := hid bP
  have HR := hid bR
  have Hs := hid hs
  rw [hW] at xP xR fR xy
  clear hq hy hb hF hr hW B0 bP bR hs
  rcases Nat.eq_zero_or_pos y with hy0 | hy0
  · have hyi : ¬ ((0 : Int) < (y : Int)) := by omega
    have Hy0 := hid hy0
    clear hy0
    gi_wp2_with (gi_at_call 64; refine (back_in Fc (N - 1) h1 hro _ _ _ _).mono ?_; rintro e w' ⟨rfl, rfl⟩)
    rw [← HW.out]
    have bN : Boxed (W.alloc (.cells #[.slice A m c] 22)) (w.heap.size + 1 + 1) 22 (.slice A m c) := by
      have h := Boxed.new W 22 (.slice A m c)
      rwa [Hs.out] at h
    have hB1 : Below w.heap.size w (W.alloc (.cells #[.slice A m c] 22)) := HB0.out.alloc (by have := Hs.out; omega) _
    have hsz : (W.alloc (.cells #[.slice A m c] 22)).heap.size = w.heap.size + 3 := by rw [World.size_alloc, Hs.out]
    have Hr1 := (Hr.out.below hB1).mono (show w.heap.size ≤ w.heap.size + 3 by omega)
    refine wpIn_rangeFunc_ownG hro hN1 (gf := 76) (lb := #[.pointer (some ⟨w.heap.size + 1 + 1, 0, none⟩)]) rfl h2 (enters_of Tryd.func76 (by kernel_rfl) rfl)
      (back_stops Fc (N - 1) h2 hro (by omega) (w.heap.size + 1 + 1) (w.heap.size + 3) m c A f _ (by omega) (by omega) bN.cell Hr1) belowK_t (belowK_b (by omega)) (Below.refl _ _) (fun _ => rfl)
      (fun pre W1 => Boxed W1 w.heap.size 87 (.pointer (some ⟨g, 0, none⟩)) ∧ Boxed W1 (w.heap.size + 1) 4 (.bool false) ∧ (∀ p ∈ pre, F (40 + p.1) = f p.1) ∧ Below w.heap.size w W1)
      (fun cd pre W1 => (cd = .ret ∧ ∃ ini last, pre = ini ++ [last] ∧ (∀ p ∈ ini, F (40 + p.1) = f p.1) ∧ F (40 + last.1) ≠ f last.1 ∧ Boxed W1 (w.heap.size + 1) 4 (.bool (decide (F (40 + last.1) < f last.1)))) ∧ Below w.heap.size w W1)
      (OwnFrom.and (Own.from (boxed_own _ _ (fun _ => _)) _) (OwnFrom.and (Own.from (boxed_own _ _ (fun _ => _)) _) (OwnFrom.and (ownFrom_pure _ _) (ownFrom_below (Nat.le_refl _) (by omega)))))
      (fun cd => OwnFrom.and (Own.from (fun s X Y row hs hg hr => by
        obtain ⟨hc, ini, last, e1, e2, e3, hx⟩ := hs
        exact ⟨hc, ini, last, e1, e2, e3, hx.kept hg (fun e' => by obtain ⟨o, ho, hc⟩ := hr _ e'.symm; rw [show X.heap[_]? = _ from hx] at ho; cases ho; cases hc)⟩) _) (ownFrom_below (Nat.le_refl _) (by omega)))
      ⟨HP.out.alloc _, HR.out.alloc _, by simp, hB1⟩
      (fun x => { tmps := #[.pointer (some ⟨g, 0, none⟩), .slice A m c, .pointer (some ⟨w.heap.size, 0, none⟩), undef, .pointer (some ⟨w.heap.size + 1, 0, none⟩), .int .i64 (x.1 : Int), .int .u32 (f x.1 : Int), undef,
          .pointer (some ⟨g, 0, none⟩), .slice A m c, .int .i64 (m : Int), .int .i64 (q : Int), .pointer (some ⟨g, 0, none⟩), .pointer (some ⟨g, q, none⟩), .int .u32 (y : Int), .bool false, .slice A m c,
          .func (.func 76) #[] #[.pointer (some ⟨w.heap.size + 1 + 1, 0, none⟩)], .int .i64 (x.1 : Int), .int .u32 (f x.1 : Int), undef, undef, undef, undef, undef, undef, undef, undef, undef, undef, undef, undef], defers := [] }) ?assign ?body ?done ?stop
    case assign =>
      intro l x W K hK
      gi_wp2
      exact hK
    case body =>
      rintro l pre ⟨d, hd⟩ W1 ⟨b1, b2, hp, hB⟩ _
      obtain ⟨q', hq'⟩ : ∃ q', q' = 40 + d := ⟨_, rfl⟩
      have h40' : (40 : Int) + (d : Int) = (q' : Int) := by omega
      have hq81' : q' < 81 := by omega
      have hwq' : IntKind.i64.wrap (q' : Int) = (q' : Int) := IntWalk.i64_in _ (by omega)
      have Hq' := hid hq'
      have Hp := hid hp
      have c1 := b1.cell
      have c2 := b2.cell
      have c3 := b2.frozen
      have c4 := (Hb.out.below hB hgl).cell hq81'
      obtain ⟨z, hz⟩ : ∃ z, z = F q' := ⟨_, rfl⟩
      obtain ⟨u, hu⟩ : ∃ u, u = f d := ⟨_, rfl⟩
      rw [← hz] at c4
      have Hz := hid hz
      have Hu := hid hu
      dsimp only
      rw [← hu]
      clear hq' hp hz hu
      by_cases hzu : z = u
      · have hzi : (z : Int) = (u : Int) := by rw [hzu]
        have Hzu := hid hzu
        clear hzu
        gi_wp2
        refine ⟨KeepsFrom.refl _ _, Below.refl _ _, b1, b2, fun p hp' => ?_, hB⟩
        rcases List.mem_append.1 hp' with h | h
        · exact Hp.out p h
        · obtain rfl : p = ⟨d, hd⟩ := by simpa using h
          show F (40 + d) = f d
          rw [← Hq'.out, ← Hz.out, ← Hu.out, Hzu.out]
      · have hzi : ¬ (z : Int) = (u : Int) := by omega
        have hfz : F (40 + d) = z := by rw [Hz.out, Hq'.out]
        gi_wp2
        refine ⟨(KeepsOthers.setCell _ _ _).from _, ⟨rfl, pre, ⟨d, hd⟩, rfl, Hp.out, ?_, ?_⟩, hB.setCell (p := ⟨w.heap.size + 1, 0, none⟩) (Nat.le_succ _) _⟩
        · show F (40 + d) ≠ f d
          rw [hfz, ← Hu.out]
          exact hzu
        · show Boxed _ _ _ (.bool (decide (F (40 + d) < f d)))
          rw [hfz, ← Hu.out]
          exact b2.set _
    case done =>
      rintro D ys W1 hD hys ⟨b1, b2, hp, hB⟩ hK
      have c2 := b2.cell
      have c3 := b2.frozen
      have Hp := hid hp
      have Hys := hid hys
      clear hp hys
      gi_wp2
      have hK' := (KeepsOthers.setCell W1 ⟨w.heap.size + 1, 0, none⟩ (.bool false)).same D _ hK rfl
      refine ⟨by simp, .inl ⟨_, _, rfl, run_takeDeferred hK', ?_⟩⟩
      have hc5 := cell_kept (b2.set (.bool false)).cell (grownBy_putObj' _ D (.deferred none)) (fun r e => by cases e; exact ⟨_, hK', rfl⟩)
      refine ⟨.bool false, by simp [results, Tryd.f54, go_sem, hc5], false, rfl, ?_, (hB.setCell (p := ⟨w.heap.size + 1, 0, none⟩) (Nat.le_succ _) _).trans (belowK_b (w := w) (Nat.le_refl _) _ D _ _ (by omega) hK' rfl rfl)⟩
      simp only [Bool.false_eq_true, false_iff]
      exact below_all Hys.out Hp.out
    case stop =>
      rintro D cd pre W1 hD ⟨k, hk, hpre⟩ ⟨⟨rfl, ini, last, e1, e2, e3, b2⟩, hB⟩ hK
      have He2 := hid e2
      have Hpre := hid hpre
      clear e2 hpre
      gi_wp2
      refine ⟨by simp, .inl ⟨_, _, rfl, run_takeDeferred hK, ?_⟩⟩
      have hc5 := cell_kept b2.cell (grownBy_putObj' _ D (.deferred none)) (fun r e => by cases e; exact ⟨_, hK, rfl⟩)
      refine ⟨.bool (decide (F (40 + last.1) < f last.1)), by simp [results, Tryd.f54, go_sem, hc5], _, rfl, ?_, hB.trans (belowK_b (w := w) (Nat.le_refl _) _ D _ _ (by omega) hK rfl rfl)⟩
      rw [decide_eq_true_iff]
      exact below_at HF.out Hr.out.lt (by rw [← Hq.out, ← Hy.out, Hy0.out]) (e1 ▸ Hpre.out) hk He2.out e3
  · have hyi : (0 : Int) < (y : Int) := by omega
    have Hy0 := hid hy0
    clear hy0
    gi_wp2
    rw [← HW.out]
    rw [← HW.out] at xP xR fR xy
    refine ⟨.bool false, by simp [results, Tryd.f54, go_sem, xR], false, rfl, ?_, HB0.out⟩
    simp only [Bool.false_eq_true, false_iff]
    exact below_high (m := m) Hr.out.lt (F := F) (by rw [← Hq.out, ← Hy.out]; exact Hy0.out)

theorem below_any {w : World} {g m c : Nat} {A : Option Addr} {F f : Nat → Nat} (hb : Blk w 68 g 81 F) (hF : ∀ j, F j < 4294967296) (hr : Rd w w.heap.size A m c f) (hm : m ≤ 40) :
    Calls Tryd.prog 54 #[.pointer (some ⟨g, 0, none⟩), .slice A m c] w fun e w' => ∃ r : Bool, e = .returned (.bool r) ∧ (r = true ↔ vl (fun i => F (40 + i)) (m + 1) < vl f m) ∧ Below w.heap.size w w' :=
  callsIn_wide.1 (below_in Fence.wide 3 trivial trivial trivial rfl (Nat.le_refl _) hb hF hr hm)

end Go.Proofs.YtnhnddhigbbleaaDoor


namespace Go.Proofs.YtnhnddhigbbleaaDoor
open Go.RowKit

theorem vl_top0 {f : Nat → Nat} {k : Nat} : ∀ {n : Nat}, vl f n < pw k → ∀ j, k ≤ j → j < n → f j = 0
  | 0, _, _, _, h => absurd h (Nat.not_lt_zero _)
  | n + 1, hv, j, h1, h2 => by
    have h3 : vl f (n + 1) = vl f n + f n * pw n := rfl
    rcases Nat.lt_or_ge j n with h | h
    · exact vl_top0 (n := n) (by omega) j h1 h
    · obtain rfl : j = n := by omega
      rcases Nat.eq_zero_or_pos (f j) with h4 | h4
      · exact h4
      · have h5 : pw j ≤ f j * pw j := Nat.le_mul_of_pos_left _ h4
        have h6 := pw_mono h1
        omega

theorem next_split {F : Nat → Nat} {m : Nat} (hm : m ≤ 40) (h : vl F 81 < pw (41 + m)) : vl F 81 = vl F 40 + pw 40 * vl (fun i => F (40 + i)) (m + 1) := by
  have h1 := vl_shift F 40 41
  rw [show 40 + 41 = 81 from rfl] at h1
  rw [h1]
  congr 2
  exact vl_above (by omega) fun j hj hj2 => vl_top0 h (40 + j) (by omega) (by omega)
theorem next_less {F f : Nat → Nat} {m : Nat} (hm : m ≤ 40) (hF : ∀ j, F j < 4294967296) (h : vl F 81 < pw (41 + m)) : vl (fun i => F (40 + i)) (m + 1) < vl f m ↔ vl F 81 < vl f m * pw 40 := by
  rw [next_split hm h, Nat.mul_comm (vl f m)]
  have h1 := vl_lt (f := F) (k := 40) (fun j _ => hF j)
  generalize vl (fun i => F (40 + i)) (m + 1) = x
  generalize vl f m = y
  constructor
  · intro hx
    have h2 := Nat.mul_le_mul_left (pw 40) (show x + 1 ≤ y from hx)
    rw [Nat.mul_add, Nat.mul_one] at h2
    omega
  · intro hx
    rcases Nat.lt_or_ge x y with h2 | h2
    · exact h2
    · have := Nat.mul_le_mul_left (pw 40) h2
      omega
theorem tkn_lt {F f : Nat → Nat} {m : Nat} (hF : ∀ j, F j < 4294967296) (j : Nat) : tkn F f m j < 4294967296 := by
  unfold tkn
  split
  · exact dif_lt _ _ _
  · exact hF j
theorem next_take {F f : Nat → Nat} {m : Nat} (hm : m ≤ 40) (hF : ∀ j, F j < 4294967296) (hf : ∀ j, f j < 4294967296) (h0 : f m = 0) (h : vl F 81 < pw (41 + m)) (hge : vl f m ≤ vl (fun i => F (40 + i)) (m + 1)) :
    vl (tkn F f m) 81 + vl f m * pw 40 = vl F 81 := by
  have h1 := vl_dif (f := fun i => F (40 + i)) (h := f) (fun j => hF _) hf (m + 1)
  have h2 := vl_lt (f := dif (fun i => F (40 + i)) f) (k := m + 1) (fun j _ => dif_lt _ _ j)
  have h3 := brw_le (fun i => F (40 + i)) f (m + 1)
  have h4 : vl f (m + 1) = vl f m := by rw [vl_succ, h0, Nat.zero_mul, Nat.add_zero]
  have h5 : brw (fun i => F (40 + i)) f (m + 1) = 0 := by
    rcases Nat.eq_zero_or_pos (brw (fun i => F (40 + i)) f (m + 1)) with h6 | h6
    · exact h6
    · rw [show brw (fun i => F (40 + i)) f (m + 1) = 1 by omega] at h1
      omega
  rw [h5, h4, Nat.zero_mul] at h1
  have h10 : vl (dif (fun i => F (40 + i)) f) (m + 1) + vl f m = vl (fun i => F (40 + i)) (m + 1) := h1
  have h7 := vl_shift (tkn F f m) 40 41
  rw [show 40 + 41 = 81 from rfl] at h7
  have h8 : vl (tkn F f m) 40 = vl F 40 := vl_congr fun j hj => by unfold tkn; rw [if_neg (by omega)]
  have h9 : vl (fun j => tkn F f m (40 + j)) 41 = vl (dif (fun i => F (40 + i)) f) (m + 1) := by
    rw [vl_above (f := fun j => tkn F f m (40 + j)) (k := m + 1) (m := 41) (by omega) (fun j hj hj2 => ?_)]
    · exact vl_congr fun j hj => by
        show tkn F f m (40 + j) = _
        unfold tkn
        rw [if_pos (by omega), Nat.add_sub_cancel_left]
    · show tkn F f m (40 + j) = 0
      unfold tkn
      rw [if_neg (by omega)]
      exact vl_top0 h (40 + j) (by omega) (by omega)
  rw [h7, h8, h9, next_split hm h, ← h10, Nat.mul_add, Nat.mul_comm (vl f m), Nat.add_assoc]

theorem ngrown_below {w w1 w2 : World} {g : Nat} (h : w.grownBy w1 (some g)) (hb : Below w1.heap.size w1 w2) : w.grownBy w2 (some g) :=
  ⟨hb.os.trans h.os, hb.tape.trans h.tape, hb.output.trans h.output, Nat.le_trans h.size hb.size, fun i hi hne => (hb.block i (Nat.lt_of_lt_of_le hi h.size)).trans (h.block i hi hne)⟩
theorem ngrown_grown {w w1 w2 : World} {g : Nat} (h : w.grownBy w1 (some g)) (hb : w1.grownBy w2 (some g)) : w.grownBy w2 (some g) :=
  ⟨hb.os.trans h.os, hb.tape.trans h.tape, hb.output.trans h.output, Nat.le_trans h.size hb.size, fun i hi hne => (hb.block i (Nat.lt_of_lt_of_le hi h.size) hne).trans (h.block i hi hne)⟩
theorem Rd.ngrown {w w' : World} {g B m c : Nat} {A : Option Addr} {f : Nat → Nat} (h : Rd w B A m c f) (hg : w.grownBy w' (some g)) (hB : B ≤ g) (hl : B ≤ w.heap.size) : Rd w' B A m c f :=
  ⟨h.cap, h.max, h.lt, h.out, fun hn => by
    obtain ⟨b, off, rfl, hb, hc⟩ := h.at_ hn
    exact ⟨b, off, rfl, hb, fun j hj => (World.cell?_of_block (hg.block b (by omega) (by intro e; injection e with e; omega))).trans (hc j hj)⟩⟩

set_option maxHeartbeats 3200000 in
theorem next_any {w : World} {g m c B : Nat} {A : Option Addr} {F f : Nat → Nat} (hb : Blk w 68 g 81 F) (hF : ∀ j, F j < 4294967296) (hr : Rd w B A m c f) (hB : B ≤ g) (hm : m ≤ 40) (hlt : vl F 81 < vl f m * pw 40) :
    Calls Tryd.prog 43 #[.pointer (some ⟨g, 0, none⟩), .slice A m c] w fun e w' => ∃ d : Nat, e = .returned (.int .u32 (d : Int)) ∧ Hid (d ≤ 1 ∧ ∃ F' : Nat → Nat, Blk w' 68 g 81 F' ∧ (∀ j, F' j < 4294967296) ∧ vl F' 81 + d * (vl f m * pw 40) = 2 * vl F 81 ∧ vl F' 81 < vl f m * pw 40) ∧ Hid (w.grownBy w' (some g)) := by
  have hfm := vl_lt (f := f) (k := m) (fun j _ => hr.lt j)
  have hgl := hb.lt
  have hD : vl f m * pw 40 < pw (40 + m) := by
    rw [pw_add, Nat.mul_comm]
    exact Nat.mul_lt_mul_of_pos_left hfm (pw_pos 40)
  have hp1 : 2 * pw (40 + m) ≤ pw (41 + m) := by
    rw [show 41 + m = 40 + m + 1 by omega, pw_succ]
    omega
  have hdb : vl (dbl F) 81 = 2 * vl F 81 := by
    have h1 := vl_dbl hF 80
    have h2 : F 80 / 2147483648 = 0 := by
      rcases Nat.eq_zero_or_pos (F 80 / 2147483648) with h | h
      · exact h
      · have h3 : pw (80 + 1) ≤ F 80 / 2147483648 * pw (80 + 1) := Nat.le_mul_of_pos_left _ h
        have h4 : vl F (80 + 1) < vl f m * pw 40 := hlt
        have h5 := pw_mono (show 41 + m ≤ 80 + 1 by omega)
        omega
    rw [h2, Nat.zero_mul, Nat.add_zero] at h1
    exact h1
  have hv : vl (dbl F) 81 < pw (41 + m) := by omega
  have CD := hid (double_any hb hF)
  have Hlt := hid (dbl_lt hF)
  have Hr := hid hr
  have Hhl := hid hlt
  have Hdb := hid hdb
  have Hv := hid hv
  have HBl := hid (show B ≤ w.heap.size by omega)
  have h0 := hr.out m (Nat.le_refl _)
  have H0 := hid h0
  clear hb hF hr hfm hD hp1 hdb hv hlt h0
  go_enter Tryd.func43, Tryd.ntmps43
  go_wp2_with fail
  refine CD.out.mono ?_
  rintro e w1 ⟨rfl, hb1, hg1⟩
  have Hr1 := hid (Hr.out.ngrown hg1.out hB HBl.out)
  have CB := hid (below_any hb1.out Hlt.out (Hr1.out.mono (Nat.le_trans HBl.out hg1.out.size)) hm)
  clear CD
  go_wp2_with fail
  refine CB.out.mono ?_
  rintro e w2 ⟨r, rfl, hr2, J⟩
  have hb2 := hid (hb1.out.below J hb1.out.lt)
  have hg2 := hid (ngrown_below hg1.out J)
  have J := hid J
  have hr2 := hid (hr2.trans (next_less hm Hlt.out Hv.out))
  clear CB
  cases r with
  | true =>
    go_wp2
    go_ret
    refine ⟨0, rfl, ⟨by omega, _, hb2.out, Hlt.out, ?_, hr2.out.1 (by trivial)⟩, hg2⟩
    rw [Nat.zero_mul, Nat.add_zero]
    exact Hdb.out
  | false =>
    have hge : ¬ vl (dbl F) 81 < vl f m * pw 40 := fun h => by have := hr2.out.2 h; cases this
    have CT := hid (take_any hb2.out Hlt.out (Hr1.out.below (J.out.mono (Nat.le_trans HBl.out hg1.out.size))) hB hm)
    go_wp2_with fail
    refine CT.out.mono ?_
    rintro e w3 ⟨rfl, hb3, hg3⟩
    go_wp2
    go_ret
    have ht := next_take hm Hlt.out Hr.out.lt H0.out Hv.out (Nat.le_of_not_lt (fun h => hge ((next_less hm Hlt.out Hv.out).1 h)))
    have h1 := Hdb.out
    have h2 := Hhl.out
    refine ⟨1, rfl, ⟨Nat.le_refl _, _, hb3.out, tkn_lt Hlt.out, by rw [Nat.one_mul]; omega, by omega⟩, hid (ngrown_grown hg2.out hg3.out)⟩

end Go.Proofs.YtnhnddhigbbleaaDoor

