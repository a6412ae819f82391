/- Package mass: parts. -/
/- Package dyad: lowest, Check, anyBad, side. -/
/- Package dyad: sum. -/
import Derived.Test.YtdcolnipdipkhaaVab
import Derived.Test.YtdcolnipdipkhaaVac
import Derived.Sort.QuietIn
import Derived.Sort.CutIn
import Derived.Test.YtdcolnipdipkhaaProg

namespace Go.Proofs.Ytdcolnipdipkhaa
set_option maxRecDepth 100000
open Go.RowKit Go.Shelf
attribute [local go_sem] Oper.semAt_some

/-- The pointer to part k of the mass at block g. -/
def pptr (g k : Nat) : Value := .pointer (some ⟨g, 3 * k, none⟩)
/-- The first k parts' numbers. -/
def fst (k : Nat) : List Nat := upto (fun j => j) k

theorem fst_length (k : Nat) : (fst k).length = k := by unfold fst; exact upto_length _ _
/-- A front of the parts, in order. -/
def Pre4 (s : List (Idx 4)) : Prop := s.map (·.1) = fst s.length
theorem pre4_of {s : List (Idx 4)} {k : Nat} (h : s.map (·.1) = fst k) : Pre4 s := by
  have e := congrArg List.length h
  rw [List.length_map, fst_length] at e
  unfold Pre4
  rw [e]
  exact h
theorem Pre4.front {s : List (Idx 4)} {x : Idx 4} (h : Pre4 (s ++ [x])) : x.1 = s.length ∧ Pre4 s := by
  unfold Pre4 at h
  rw [List.length_append, List.length_singleton, List.map_append, show fst (s.length + 1) = fst s.length ++ [s.length] by unfold fst; rw [upto_succ]] at h
  have e := List.append_inj h (by rw [List.length_map, fst_length])
  exact ⟨by simpa using e.2, e.1⟩

set_option maxRecDepth 100000 in
set_option maxHeartbeats 4000000 in
theorem parts1_in (n : Nat) (hn : 1 ≤ n) (l Bs g : Nat) (R : World → World → Prop) (J Jx : List (Idx 4) → World → Prop)
    (hdr : ∀ W W' m, R W W' → R W (W'.drewN m)) (htr : ∀ W W' W'', R W W' → R W' W'' → R W W'')
    (hJd : ∀ pre W m, J pre W → J pre (W.drewN m))
    (hY : ∀ pre x W, J pre W → Pre4 (pre ++ [x]) → YieldAt Fence.wide (n - 1) Try.prog l #[pptr g x.1] W fun e W' =>
      (e = .returned (.bool true) ∧ J (pre ++ [x]) W' ∧ R W W') ∨ (e = .returned (.bool false) ∧ Jx (pre ++ [x]) W'))
    (W : World) (hR0 : R W W) (hBs : W.cell? ⟨Bs, 0, none⟩ = some (.pointer (some ⟨g, 0, none⟩))) (h0 : J [] W) :
    CallsIn Fence.wide n Try.prog 52 #[.func (.yield l) #[] #[], .pointer (some ⟨Bs, 0, none⟩)] W fun e W' => (∃ v, e = .returned v) ∧
      ((∃ ys : List (Idx 4), ys.map (·.1) = fst 4 ∧ J ys W') ∨ (∃ pre : List (Idx 4), (∃ k, k ≤ 4 ∧ pre.map (·.1) = fst k) ∧ Jx pre W')) := by
  have i0 : ∀ w : World, (Instr.index 85 (.agg #[.pointer (some ⟨g, 0, none⟩), .pointer (some ⟨g, 3, none⟩), .pointer (some ⟨g, 6, none⟩), .pointer (some ⟨g, 9, none⟩)]) (.int .i64 0)).run Try.prog w = .ok (.pointer (some ⟨g, 0, none⟩)) w := fun _ => by kernel_rfl
  have i1 : ∀ w : World, (Instr.index 85 (.agg #[.pointer (some ⟨g, 0, none⟩), .pointer (some ⟨g, 3, none⟩), .pointer (some ⟨g, 6, none⟩), .pointer (some ⟨g, 9, none⟩)]) (.int .i64 1)).run Try.prog w = .ok (.pointer (some ⟨g, 3, none⟩)) w := fun _ => by kernel_rfl
  have i2 : ∀ w : World, (Instr.index 85 (.agg #[.pointer (some ⟨g, 0, none⟩), .pointer (some ⟨g, 3, none⟩), .pointer (some ⟨g, 6, none⟩), .pointer (some ⟨g, 9, none⟩)]) (.int .i64 2)).run Try.prog w = .ok (.pointer (some ⟨g, 6, none⟩)) w := fun _ => by kernel_rfl
  have i3 : ∀ w : World, (Instr.index 85 (.agg #[.pointer (some ⟨g, 0, none⟩), .pointer (some ⟨g, 3, none⟩), .pointer (some ⟨g, 6, none⟩), .pointer (some ⟨g, 9, none⟩)]) (.int .i64 3)).run Try.prog w = .ok (.pointer (some ⟨g, 9, none⟩)) w := fun _ => by kernel_rfl
  refine callsIn_of_wp Try.func52 rfl trivial ?_ rfl
  simp only [Try.ntmps52, List.size_toArray, List.length_cons, List.length_nil, Nat.reduceAdd, Nat.reduceSub, Array.replicate_succ, Array.replicate_zero, List.push_toArray, List.append_toArray, List.nil_append, List.cons_append]
  gi_wp2
  gi_quiet (fail)
  gi_wp2
  gi_loopw [18] (fun i wr => ∃ (k : Nat) (pre : List (Idx 4)), k ≤ 4 ∧ i = .int .i64 (k : Int) ∧ pre.map (·.1) = fst k ∧ J pre wr ∧ R W wr)
    (fun i _ => 4 - (intOf i).toNat)
  case atStart => exact ⟨0, [], by omega, rfl, rfl, hJd _ _ _ h0, hdr _ _ _ hR0⟩
  case round =>
    obtain ⟨k, pre, hk, rfl, hpre, hJs, hRr⟩ := hrel
    by_cases hk4 : k < 4
    · have hk1 : k + 1 ≤ 4 := by omega
      have hb : (pre ++ [(⟨k, hk4⟩ : Idx 4)]).map (·.1) = fst (k + 1) := by
        unfold fst at hpre ⊢
        rw [List.map_append, hpre, upto_succ]
        rfl
      obtain ⟨fn, tmps, assign, body, hy, hR⟩ := hY pre ⟨k, hk4⟩ wr hJs (pre4_of hb)
      dsimp only at hy
      unfold pptr at hy
      have hc : k = 0 ∨ k = 1 ∨ k = 2 ∨ k = 3 := by omega
      rcases hc with rfl | rfl | rfl | rfl
      all_goals
        simp only [Nat.mul_zero, Nat.mul_one, Nat.reduceMul] at hy
        gi_wp2
        refine hR.mono ?_
        rintro e W3 (⟨rfl, hJ3, hR3⟩ | ⟨rfl, hJx3⟩)
        · gi_wp2
          go_roundw
          case rel => exact ⟨_, _, hk1, rfl, hb, hJ3, htr _ _ _ hRr hR3⟩
          case measure => simp [intOf]
        · gi_wp2
          refine bodyPost_ret (results_none rfl _ _ _) rfl ?_
          exact ⟨⟨_, rfl⟩, .inr ⟨_, ⟨_, hk1, hb⟩, hJx3⟩⟩
    · obtain rfl : k = 4 := by omega
      gi_wp2
      go_end0
      exact ⟨⟨_, rfl⟩, .inl ⟨_, hpre, hJs⟩⟩

theorem grownBy_drewN (W : World) (m : Nat) (r : Option Nat) : W.grownBy (W.drewN m) r := ⟨rfl, rfl, rfl, Nat.le_refl _, fun _ _ _ => rfl⟩

/-- parts$1, as the law of a loop over an iterator wants it. -/
theorem parts_comes (n : Nat) (hn : 1 ≤ n) {Bs g : Nat} {K : Nat → Prop} {w : World} (hBs : w.cell? ⟨Bs, 0, none⟩ = some (.pointer (some ⟨g, 0, none⟩))) (hlt : Bs < w.heap.size) :
    Comes Fence.wide n Try.prog 52 #[.pointer (some ⟨Bs, 0, none⟩)] (fun x : Idx 4 => #[pptr g x.1]) K Bs (fun ys _ => ys.map (·.1) = fst 4) (fun pre => ∃ k, k ≤ 4 ∧ pre.map (·.1) = fst k) w := by
  intro l J Jx W hW hJg hY h0
  refine parts1_in n hn l Bs g (Kb K) J Jx (fun W W' m h => ⟨h.size, h.block⟩) (fun _ _ _ h k => h.trans k) (fun pre W m h => hJg _ _ _ h (grownBy_drewN W m _)) (fun pre x W h _ => hY pre x W h) W (Kb.refl K W) ((hW.cell (p := ⟨Bs, 0, none⟩) hlt).trans hBs) h0

/-- parts$1, as XMover's law of a loop wants it. -/
theorem parts_comesG (n : Nat) (hn : 1 ≤ n) {Bs g : Nat} {K : Nat → Prop} {w : World} (hBs : w.cell? ⟨Bs, 0, none⟩ = some (.pointer (some ⟨g, 0, none⟩))) (hlt : Bs < w.heap.size) :
    ComesG Fence.wide n Try.prog 52 #[.pointer (some ⟨Bs, 0, none⟩)] (fun x : Idx 4 => #[pptr g x.1]) K Bs Pre4 (fun ys _ => ys.map (·.1) = fst 4) (fun pre => ∃ k, k ≤ 4 ∧ pre.map (·.1) = fst k) w := by
  intro l J Jx W hW hJg hY h0
  refine parts1_in n hn l Bs g (Kb K) J Jx (fun W W' m h => ⟨h.size, h.block⟩) (fun _ _ _ h k => h.trans k) (fun pre W m h => hJg _ _ _ h (grownBy_drewN W m _)) (fun pre x W h hg => hY pre x W hg h) W (Kb.refl K W) ((hW.cell (p := ⟨Bs, 0, none⟩) hlt).trans hBs) h0

set_option maxHeartbeats 1000000 in
theorem parts_any (n : Nat) (g : Nat) (w : World) :
    CallsIn Fence.wide n Try.prog 43 #[.pointer (some ⟨g, 0, none⟩)] w fun e w' => e = .returned (.func (.func 52) #[] #[.pointer (some ⟨w.heap.size, 0, none⟩)]) ∧ w' = w.alloc (.cells #[.pointer (some ⟨g, 0, none⟩)] 77) := by
  refine callsIn_of_wp Try.func43 rfl trivial ?_ rfl
  simp only [Try.ntmps43, List.size_toArray, List.length_cons, List.length_nil, Nat.reduceAdd, Nat.reduceSub, Array.replicate_succ, Array.replicate_zero, List.push_toArray, List.append_toArray, List.nil_append, List.cons_append]
  gi_wp2
  go_ret
  exact ⟨rfl, rfl⟩

end Go.Proofs.Ytdcolnipdipkhaa


namespace Go.Proofs.Ytdcolnipdipkhaa
set_option maxRecDepth 100000
open Go.RowKit

theorem and_one_u32 (x : Nat) (hx : x < 4294967296) : bits BinOp.and IntKind.u32 (x : Int) 1 = ((x % 2 : Nat) : Int) := by
  have h := bit_u32 x 0 hx
  simpa using h

set_option maxHeartbeats 400000 in
theorem lowest_nil (A : Option Addr) (c : Nat) (w : World) :
    Calls Try.prog 54 #[.slice A 0 c] w fun e w' => e = .returned (.int .u32 0) ∧ w = w' := by
  go_enter Try.func54, Try.ntmps54
  go_wp2
  go_ret
  exact ⟨rfl, rfl⟩
set_option maxHeartbeats 400000 in
theorem lowest_pos (b off n c x : Nat) (w : World) (h0 : 0 < n) (_hc : n ≤ c) (_hm : n ≤ 140737488355328) (hl : x < 4294967296) (hx : w.cell? ⟨b, off, none⟩ = some (.int .u32 (x : Int))) :
    Calls Try.prog 54 #[.slice (some ⟨b, off, none⟩) n c] w fun e w' => e = .returned (.int .u32 ((x % 2 : Nat) : Int)) ∧ w = w' := by
  have hn : ((n : Int) == 0) = false := by simp; omega
  have e := and_one_u32 x hl
  go_enter Try.func54, Try.ntmps54
  go_wp2
  go_ret
  exact ⟨rfl, rfl⟩
theorem lowest_any {B : Nat} {A : Option Addr} {n c : Nat} {f : Nat → Nat} {w : World} (h : Rd w B A n c f) :
    Calls Try.prog 54 #[.slice A n c] w fun e w' => e = .returned (.int .u32 ((f 0 % 2 : Nat) : Int)) ∧ w = w' := by
  rcases Nat.eq_zero_or_pos n with h0 | h0
  · subst h0
    rw [h.out 0 (Nat.le_refl _)]
    exact lowest_nil A c w
  · obtain ⟨b, off, rfl, _, hc⟩ := h.at_ h0
    have := hc 0 h0
    exact lowest_pos b off n c _ w h0 h.cap h.max (h.lt 0) this

/-- May a dyad be? -/
def DMay (s : Bool) (n : Nat) (f : Nat → Nat) (x : Int) : Prop := Fit n f ∧ 0 ≤ x ∧ x ≤ 1024 ∧ (n = 0 → s = false) ∧ (0 < x → f 0 % 2 = 1)

instance (s : Bool) (n : Nat) (f : Nat → Nat) (x : Int) : Decidable (DMay s n f x) := by unfold DMay; infer_instance

/-- Check's number. -/
def dchk (s : Bool) (n : Nat) (f : Nat → Nat) (x : Int) : Int := if DMay s n f x then 0 else 8

set_option maxHeartbeats 800000 in
theorem dcheck_any {A : Option Addr} {n c : Nat} {f : Nat → Nat} {w : World} (h : Rd w w.heap.size A n c f) (s : Bool) (x : Int) :
    Calls Try.prog 44 #[.agg #[.bool s, .slice A n c, .int .i64 x]] w fun e w' => e = .returned (.int .i64 (dchk s n f x)) ∧ Below w.heap.size w w' := by
  have bel : Below w.heap.size w (w.alloc (.cells #[.bool s, .slice A n c, .int .i64 x] 25)) := (Below.refl _ w).alloc (Nat.le_refl _) _
  have Cc := hid (check_any (h.below bel))
  have Cl := hid (lowest_any (h.below bel))
  have Hb := hid bel
  clear bel
  by_cases hf : Fit n f
  · rw [chk_fit hf] at Cc
    have hm := h.max
    by_cases hx0 : x < 0
    · have hd : dchk s n f x = 8 := if_neg (fun h => by have := h.2.1; omega)
      rw [hd]
      clear hd hf h Cl
      go_enter Try.func44, Try.ntmps44
      go_wp2_with fail
      refine Cc.out.mono ?_
      rintro e w' ⟨rfl, rfl⟩
      go_wp2
      go_ret
      exact ⟨rfl, Hb.out⟩
    · by_cases hx1 : 1024 < x
      · have hd : dchk s n f x = 8 := if_neg (fun h => by have := h.2.2.1; omega)
        rw [hd]
        clear hd hf h Cl
        go_enter Try.func44, Try.ntmps44
        go_wp2_with fail
        refine Cc.out.mono ?_
        rintro e w' ⟨rfl, rfl⟩
        go_wp2
        go_ret
        exact ⟨rfl, Hb.out⟩
      · have he := @id (n = 0 ∧ s = true ∨ (n = 0 → s = false)) (by cases s <;> simp; omega)
        rcases he with ⟨rfl, rfl⟩ | hs
        · have hd : dchk true 0 f x = 8 := if_neg (fun h => by have := h.2.2.2.1 rfl; cases this)
          rw [hd]
          clear hd hf h Cl
          go_enter Try.func44, Try.ntmps44
          go_wp2_with fail
          refine Cc.out.mono ?_
          rintro e w' ⟨rfl, rfl⟩
          go_wp2
          go_ret
          exact ⟨rfl, Hb.out⟩
        · by_cases hx2 : 0 < x
          · by_cases hp : f 0 % 2 = 1
            · have hd : dchk s n f x = 0 := if_pos ⟨hf, by omega, by omega, hs, fun _ => hp⟩
              rw [hd]
              rw [hp] at Cl
              have hn0 : n ≠ 0 := by
                rintro rfl
                rw [h.out 0 (Nat.le_refl _)] at hp
                cases hp
              have hn1 : ((n : Int) == 0) = false := by simp; omega
              clear hd hf h hs hp
              go_enter Try.func44, Try.ntmps44
              go_wp2_with fail
              refine Cc.out.mono ?_
              rintro e w' ⟨rfl, rfl⟩
              go_wp2_with fail
              refine Cl.out.mono ?_
              rintro e w' ⟨rfl, rfl⟩
              go_wp2
              go_ret
              exact ⟨rfl, Hb.out⟩
            · have hd : dchk s n f x = 8 := if_neg (fun h => hp (h.2.2.2.2 hx2))
              rw [hd]
              have hp0 : f 0 % 2 = 0 := by omega
              rw [hp0] at Cl
              have he2 := @id (n = 0 ∧ s = false ∨ ((n : Int) == 0) = false) (by
                rcases Nat.eq_zero_or_pos n with h0 | h0
                · exact .inl ⟨h0, hs h0⟩
                · right; simp; omega)
              clear hd hf h hs hp hp0
              rcases he2 with ⟨rfl, rfl⟩ | hn1
              all_goals
                go_enter Try.func44, Try.ntmps44
                go_wp2_with fail
                refine Cc.out.mono ?_
                rintro e w' ⟨rfl, rfl⟩
                go_wp2_with fail
                refine Cl.out.mono ?_
                rintro e w' ⟨rfl, rfl⟩
                go_wp2
                go_ret
                exact ⟨rfl, Hb.out⟩
          · have hd : dchk s n f x = 0 := if_pos ⟨hf, by omega, by omega, hs, fun h => absurd h hx2⟩
            rw [hd]
            have he2 := @id (n = 0 ∧ s = false ∨ ((n : Int) == 0) = false) (by
              rcases Nat.eq_zero_or_pos n with h0 | h0
              · exact .inl ⟨h0, hs h0⟩
              · right; simp; omega)
            clear hd hf h hs Cl
            rcases he2 with ⟨rfl, rfl⟩ | hn1
            all_goals
              go_enter Try.func44, Try.ntmps44
              go_wp2_with fail
              refine Cc.out.mono ?_
              rintro e w' ⟨rfl, rfl⟩
              go_wp2
              go_ret
              exact ⟨rfl, Hb.out⟩
  · rw [chk_bad hf] at Cc
    have hd : dchk s n f x = 8 := if_neg (fun h => hf h.1)
    rw [hd]
    clear hd hf h
    go_enter Try.func44, Try.ntmps44
    go_wp2_with fail
    refine Cc.out.mono ?_
    rintro e w' ⟨rfl, rfl⟩
    go_wp2
    go_ret
    exact ⟨rfl, Hb.out⟩

end Go.Proofs.Ytdcolnipdipkhaa


namespace Go.Proofs.Ytdcolnipdipkhaa
open Go.RowKit

theorem vl_mod2 {f : Nat → Nat} {n : Nat} (h0 : 0 < n) : vl f n % 2 = f 0 % 2 := by
  rw [show n = 1 + (n - 1) by omega, vl_shift]
  rw [show vl f 1 = f 0 by simp [vl, pw], show pw 1 = 2 * 2147483648 by decide, Nat.mul_assoc]
  omega
theorem vl_zero_iff {f : Nat → Nat} {n : Nat} (hf : Fit n f) : vl f n = 0 ↔ n = 0 := by
  constructor
  · intro hV
    rcases Nat.eq_zero_or_pos n with h0 | h0
    · exact h0
    · have a := vl_ge (f := f) h0 (hf.2 h0)
      have b := pw_pos (n - 1)
      omega
  · rintro rfl; rfl
theorem may_canon {s : Bool} {n : Nat} {f : Nat → Nat} {x : Int} (h : DMay s n f x) (hout : ∀ j, n ≤ j → f j = 0) : ∃ X : Nat, x = (X : Int) ∧ Canon s (vl f n) X ∧ X ≤ 1024 := by
  obtain ⟨hf, h0, h1, h2, h3⟩ := h
  obtain ⟨X, rfl⟩ := Int.eq_ofNat_of_zero_le h0
  refine ⟨X, rfl, ⟨fun hV => ?_, fun hx => ?_⟩, by omega⟩
  · have hn := (vl_zero_iff hf).1 hV
    refine ⟨h2 hn, ?_⟩
    rcases Nat.eq_zero_or_pos X with hX | hX
    · exact hX
    · have a := h3 (by omega)
      rw [hout 0 (by omega)] at a
      cases a
  · have a := h3 (by omega)
    rcases Nat.eq_zero_or_pos n with hn | hn
    · rw [hout 0 (by omega)] at a
      cases a
    · rw [vl_mod2 hn]
      exact a
theorem canon_may {s : Bool} {n : Nat} {f : Nat → Nat} {X : Nat} (hf : Fit n f) (hc : Canon s (vl f n) X) (hX : X ≤ 1024) : DMay s n f (X : Int) := by
  refine ⟨hf, by omega, by omega, fun hn => (hc.1 ((vl_zero_iff hf).2 hn)).1, fun hx => ?_⟩
  have a := hc.2 (by omega)
  rcases Nat.eq_zero_or_pos n with hn | hn
  · subst hn
    cases a
  · rwa [vl_mod2 hn] at a

theorem tp_split {E X : Nat} (h : X ≤ E) (hE : E ≤ 4000) : tp (4000 - X) = tp (E - X) * tp (4000 - E) := by
  rw [← tp_add]
  congr 1
  omega
theorem sum_scaled {s t : Bool} {V U X Y E : Nat} (hX : X ≤ E) (hY : Y ≤ E) (hE : E ≤ 4000) : dv s V X + dv t U Y = (num s (V * tp (E - X)) + num t (U * tp (E - Y))) * (tp (4000 - E) : Int) := by
  unfold dv
  rw [tp_split hX hE, tp_split hY hE, ← Nat.mul_assoc, ← Nat.mul_assoc, num_mul, num_mul s, num_mul t (U * _), Int.add_mul]
theorem sum_not {r : Bool} {N E : Nat} {M : Int} (h : M = num r N * (tp (4000 - E) : Int)) (hN : pw 40 ≤ N) (hor : E = 0 ∨ N % 2 = 1) (hE : E ≤ 1024) : ¬ Okay M := by
  rw [← num_mul] at h
  rw [h]
  have := pw_pos 40
  exact not_okay (s := r) (V := N) (x := E) ⟨fun h0 => by omega, fun h1 => by omega⟩ (by omega) (.inl hN)
theorem sum_form (s t : Bool) (n m : Nat) : ∃ r N, num r N = num s n + num t m ∧ N % 2 = (n + m) % 2 ∧ n ≤ N + m ∧ m ≤ N + n := by
  by_cases h : s = t
  · subst h
    exact ⟨s, n + m, num_like s n m, rfl, by omega, by omega⟩
  · rcases Nat.le_total m n with h2 | h2
    · exact ⟨s, n - m, num_unlike h h2, by omega, by omega, by omega⟩
    · exact ⟨t, m - n, by rw [num_unlike (Ne.symm h) h2, Int.add_comm], by omega, by omega, by omega⟩
theorem tp_even {k : Nat} (h : 0 < k) (V : Nat) : (V * tp k) % 2 = 0 := by
  obtain ⟨j, rfl⟩ : ∃ j, k = j + 1 := ⟨k - 1, by omega⟩
  rw [tp_succ, ← Nat.mul_assoc]
  omega
/-- One of the two is too great to be written in the other's parts: then the sum is too great. -/
theorem wide_not {s t : Bool} {V U X Y E : Nat} (hU : U < pw 40) (hc : 0 < Y → U % 2 = 1) (hYE : Y = E) (hX : X < E) (hE : E ≤ 1024) (hbig : 2 * pw 40 ≤ V * tp (E - X)) : ¬ Okay (dv s V X + dv t U Y) := by
  subst hYE
  rw [sum_scaled (by omega : X ≤ Y) (Nat.le_refl Y) (by omega), Nat.sub_self, tp_zero, Nat.mul_one]
  obtain ⟨r, N, hN, hpar, h1, h2⟩ := sum_form s t (V * tp (Y - X)) U
  rw [← hN]
  have ho := hc (by omega)
  have he := tp_even (by omega : 0 < Y - X) V
  exact sum_not rfl (by omega) (.inr (by omega)) hE
/-- Two of like signs that are too great together. -/
theorem like_not {s : Bool} {V U X Y E : Nat} (hV : V < pw 40) (hU : U < pw 40) (hc : 0 < X → V % 2 = 1) (hc2 : 0 < Y → U % 2 = 1) (hX : X ≤ E) (hY : Y ≤ E) (hor : X = E ∨ Y = E) (hE : E ≤ 1024) (hbig : 2 * pw 40 ≤ V * tp (E - X) + U * tp (E - Y)) : ¬ Okay (dv s V X + dv s U Y) := by
  rw [sum_scaled hX hY (by omega), ← num_like]
  refine sum_not rfl (by omega) ?_ hE
  rcases Nat.eq_zero_or_pos E with h0 | h0
  · exact .inl h0
  · right
    rcases Nat.lt_or_ge X E with h1 | h1
    · have h2 : Y = E := by omega
      subst h2
      have a := tp_even (by omega : 0 < Y - X) V
      have b := hc2 h0
      rw [Nat.sub_self, tp_zero, Nat.mul_one]
      omega
    · have h2 : X = E := by omega
      subst h2
      rcases Nat.lt_or_ge Y X with h3 | h3
      · have a := tp_even (by omega : 0 < X - Y) U
        have b := hc h0
        rw [Nat.sub_self, tp_zero, Nat.mul_one]
        omega
      · have h4 : Y = X := by omega
        subst h4
        rw [Nat.sub_self, tp_zero, Nat.mul_one, Nat.mul_one] at hbig
        omega

end Go.Proofs.Ytdcolnipdipkhaa

