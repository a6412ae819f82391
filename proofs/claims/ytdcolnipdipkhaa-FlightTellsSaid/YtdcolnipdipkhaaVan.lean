/- Flight: the document's without. -/
/- Loads of a call's own: the Copies of one of them are stored in their row. -/
/- Flight, the program: numbers. -/
/- Flight, the program: slices.Grow of nil, slices.Concat over loads; with. -/
import Derived.Test.YtdcolnipdipkhaaVam
import Derived.Test.YtdcolnipdipkhaaVal
import Derived.Test.YtdcolnipdipkhaaZpc
import Derived.Lib.AppendZeros
import Derived.Laws.Cover3

namespace Go.Proofs.Ytdcolnipdipkhaa.Fli
set_option maxRecDepth 100000
open Go.RowKit Go.Shelf Go.Lib

set_option maxHeartbeats 3200000 in
theorem rwithout_any {w : World} {B n c i : Nat} {A : Option Addr} {l : List (Ld Pm)} (h : Lls w B A n c l) (hB : B ≤ w.heap.size) (hi : i < n) (hz : SzL l) :
    Calls Try.prog 35 #[.slice A n c, .int .i64 (i : Int)] w (TwsR w (l.take i ++ l.drop (i + 1))) := by
  have hcap := h.cap
  have hmax := h.max
  have hl := h.len
  have hn1 : n ≤ 1000 := by rw [← hl]; exact hz.1
  have HZ := hid (show SzL (l.take i ++ l.drop (i + 1)) from ⟨by rw [List.length_append, List.length_take, List.length_drop]; have := hz.1; omega, fun p hp => (List.mem_append.1 hp).elim (fun m => hz.2 p (List.mem_of_mem_take m)) (fun m => hz.2 p (List.mem_of_mem_drop m))⟩)
  have BA := hid ((Below.refl _ w).alloc (Nat.le_refl w.heap.size) (.cells #[] 40))
  have G0 := hid (show Gw (w.alloc (.cells #[] 40)) w.heap.size 40 15 (.slice (some ⟨w.heap.size, 0, none⟩) 0 0) 0 [] from Gw.none' (heap_alloc_new w _) (Nat.le_refl _) (by unfold maxLen; omega) rfl)
  have hic : i ≤ c := by omega
  have hi1 : i + 1 ≤ c := by omega
  have hi1n : i + 1 ≤ n := by omega
  have hwr : IntKind.i64.wrap ((i : Int) + 1) = ((i + 1 : Nat) : Int) := by rw [IntKind.wrap_i64]; omega
  cases A with
  | none => exact absurd (h.nil rfl).1 (by omega)
  | some a0 =>
    obtain ⟨r0, g0, p0'⟩ := h.first (p := i) (c' := c) (by omega) (by omega) (fun e => (by cases e))
    have D0 := hid (g0.below (BA.out.mono hB))
    have P0 := hid p0'
    by_cases hch : c = i + 1
    · have hn : n = i + 1 := by omega
      obtain ⟨r2, g2, p2'⟩ : Lls w B (some a0) 0 0 (l.drop (i + 1)) := by
        rw [List.drop_of_length_le (by rw [hl]; omega)]
        exact Lls.none' _ B 0 a0
      have D2 := hid g2
      have P2 := hid p2'
      clear h hz g0 p0' g2 p2'
      subst hn
      subst hch
      go_enter Try.func35, Try.ntmps35
      go_upto_region 2 with (first
        | (at_builtin
           refine list_appG (v := .slice (some ⟨w.heap.size, 0, none⟩) 0 0) (cs := []) rfl _ _ rfl Try.underlying22 infoLd rfl (by decide) (by decide) rfl rfl G0.out D0.out (cellsL_one _) (by omega) BA.out.size ?_
           intro v1 w1 T1
           have B1 := hid (BA.out.trans (T1.out.below G0.out BA.out.size))
           have G1 := hid T1.out.own
           have D1 := hid (D2.out.below (B1.out.mono hB)))
        | fail)
      clear G0 D0 D2
      go_wp2_with (first
        | (at_builtin
           refine list_appG (v := v1) rfl _ _ rfl Try.underlying22 infoLd rfl (by decide) (by decide) rfl rfl G1.out D1.out (cellsL_one _) (by omega) B1.out.size ?_
           intro v2 w2 T2
           have B2 := hid (B1.out.trans (T2.out.below G1.out B1.out.size))
           obtain ⟨A2, c2, e2, g2, _⟩ := T2.out.own.form
           rw [Nat.zero_add] at e2 g2
           subst e2
           have L2 := hid (show Lls w2 w2.heap.size A2 i c2 (l.take i ++ l.drop (i + 1)) from ⟨r0 ++ r2, by rw [cellsL_append]; rwa [List.nil_append] at g2, ((P0.out.append P2.out).below (B2.out.mono hB)).mono (Nat.le_trans hB B2.out.size)⟩)
           have CT := hid (rtwins_any L2.out (Nat.le_refl _) HZ.out))
        | fail)
      refine CT.out.mono ?_
      rintro e w3 ⟨v3, rs3, rfl, H3⟩
      have H4 := hid (And.intro (H3.out.1.mono B2.out.size) (gbelow_on B2.out (Nat.le_refl _) H3.out.2))
      clear H3
      go_wp2
      go_ret
      exact ⟨v3, rs3, rfl, hid H4.out⟩
    obtain ⟨r2, g2, p2'⟩ := h.restA (p := i + 1) (c' := c - (i + 1)) (by omega) (by omega)
    have D2 := hid g2
    have P2 := hid p2'
    clear h hz g0 p0' g2 p2'
    go_enter Try.func35, Try.ntmps35
    go_upto_region 2 with (first
      | (at_builtin
         refine list_appG (v := .slice (some ⟨w.heap.size, 0, none⟩) 0 0) (cs := []) rfl _ _ rfl Try.underlying22 infoLd rfl (by decide) (by decide) rfl rfl G0.out D0.out (cellsL_one _) (by omega) BA.out.size ?_
         intro v1 w1 T1
         have B1 := hid (BA.out.trans (T1.out.below G0.out BA.out.size))
         have G1 := hid T1.out.own
         have D1 := hid (D2.out.below (B1.out.mono hB)))
      | fail)
    clear G0 D0 D2
    go_wp2_with (first
      | (at_builtin
         refine list_appG (v := v1) rfl _ _ rfl Try.underlying22 infoLd rfl (by decide) (by decide) rfl rfl G1.out D1.out (cellsL_one _) (by omega) B1.out.size ?_
         intro v2 w2 T2
         have B2 := hid (B1.out.trans (T2.out.below G1.out B1.out.size))
         obtain ⟨A2, c2, e2, g2, _⟩ := T2.out.own.form
         rw [Nat.zero_add] at e2 g2
         subst e2
         have L2 := hid (show Lls w2 w2.heap.size A2 (i + (n - (i + 1))) c2 (l.take i ++ l.drop (i + 1)) from ⟨r0 ++ r2, by rw [cellsL_append]; rwa [List.nil_append] at g2, ((P0.out.append P2.out).below (B2.out.mono hB)).mono (Nat.le_trans hB B2.out.size)⟩)
         have CT := hid (rtwins_any L2.out (Nat.le_refl _) HZ.out))
      | fail)
    refine CT.out.mono ?_
    rintro e w3 ⟨v3, rs3, rfl, H3⟩
    have H4 := hid (And.intro (H3.out.1.mono B2.out.size) (gbelow_on B2.out (Nat.le_refl _) H3.out.2))
    clear H3
    go_wp2
    go_ret
    exact ⟨v3, rs3, rfl, hid H4.out⟩
end Go.Proofs.Ytdcolnipdipkhaa.Fli


namespace Go.Proofs.Ytdcolnipdipkhaa.Fli
set_option maxRecDepth 100000
open Go.RowKit Go.Shelf Go.Lib

theorem cellsL_cnt : ∀ {rs : List Lr} {i : Nat} {r : Lr}, rs[i]? = some r → ∀ v : Int, cellsL (rs.set i (r.1, r.2.1, v, r.2.2.2)) = (cellsL rs).set (i * 15 + 2) (.int .i64 v)
  | [], _, _, h, _ => by simp at h
  | x :: rs, 0, r, h, v => by
    obtain rfl : x = r := by simpa using h
    rw [List.set_cons_zero, cellsL_cons, cellsL_cons]
    rfl
  | x :: rs, i + 1, r, h, v => by
    have ih := cellsL_cnt (rs := rs) (i := i) (r := r) (by simpa using h) v
    rw [List.set_cons_succ, cellsL_cons, cellsL_cons, ih, List.set_append_right _ _ (by rw [encL_length]; omega), encL_length]
    congr 2
    omega
theorem Lof.cnt {B g c i : Nat} {w w' : World} {rs : List Lr} {l : List (Ld Pm)} {r : Lr} {p : Ld Pm} {cur : Array Value} (v : Int) (h : Lof B w (.slice (some ⟨g, 0, none⟩) l.length c) rs l) (hr : rs[i]? = some r) (hp : l[i]? = some p)
    (hc : w.heap[g]? = some (.cells cur 40 (0, 0))) (q : Gq g w w') (hw : w'.heap[g]? = some (.cells (cur.setIfInBounds (i * 15 + 2) (.int .i64 v)) 40 (0, 0))) :
    Lof B w' (.slice (some ⟨g, 0, none⟩) l.length c) (rs.set i (r.1, r.2.1, v, r.2.2.2)) (l.set i (p.1, p.2.1, v, p.2.2.2)) := by
  have hk : Keep32 B w w' := fun b cs _ hb => q.block b (fun e => by
    subst e
    rw [hc] at hb
    injection hb with hb
    injection hb with _ ht _
    exact absurd ht (by decide))
  have hil : i < l.length := (List.getElem?_eq_some_iff.1 hp).1
  refine ⟨?_, ⟨by rw [List.length_set, List.length_set]; exact h.pair.1, fun j a b ha hb => ?_⟩⟩
  · obtain ⟨⟨hl, hor⟩, hm⟩ := h.row
    rcases hor with ⟨e, h0⟩ | ⟨g', cap, cur', e, hB, hg, hn, hcc, hs, ht⟩
    · cases e
    · injection e with e1 e2 e3
      injection e1 with e1
      injection e1 with e1
      subst e1
      rw [hc] at hg
      injection hg with hg
      injection hg with hg _ _
      subst hg
      rw [List.length_set, cellsL_cnt hr v]
      refine ⟨⟨by rw [List.length_set]; exact hl, .inr ⟨g, cap, cur.setIfInBounds (i * 15 + 2) (.int .i64 v), by rw [e3], hB, hw, hn, hcc, by rw [Array.size_setIfInBounds]; exact hs, ?_⟩⟩, hm⟩
      rw [← ht, Array.toList_setIfInBounds, List.take_set]
  · rw [List.getElem?_set] at ha hb
    by_cases hj : i = j
    · subst hj
      have hir : i < rs.length := (List.getElem?_eq_some_iff.1 hr).1
      rw [if_pos rfl, if_pos hir] at ha
      rw [if_pos rfl, if_pos hil] at hb
      injection ha with ha
      injection hb with hb
      subst ha hb
      have k := (h.pair.2 i r p hr hp).keep hk
      exact ⟨k.nu, k.ep, rfl, k.pl, k.lim⟩
    · rw [if_neg hj] at ha hb
      exact (h.pair.2 j a b ha hb).keep hk
end Go.Proofs.Ytdcolnipdipkhaa.Fli


namespace Go.Proofs.Ytdcolnipdipkhaa.Fli
set_option maxRecDepth 100000
open Go.RowKit Go.Shelf Go.Lib

/-- A Number is found there, or not. -/
def FndN (l : List (Ld Pm)) (n : Int) (i : Nat) (t : Bool) : Prop := (t = true ∧ i < l.length ∧ ∃ p, l[i]? = some p ∧ fnd n l = some p) ∨ (t = false ∧ fnd n l = none)
theorem number1_any {w : World} {x y z : Int} {R : Nat → Dy} :
    Calls Try.prog 42 #[.agg (lcells x y z R)] w fun e w' => e = .returned (.int .i64 x) ∧ Hid (Below w.heap.size w w') := by
  obtain ⟨W, hW⟩ : ∃ W, W = w.alloc (.cells (lcells x y z R) 40) := ⟨_, rfl⟩
  have B0 := hid (show Below w.heap.size w W from hW ▸ (Below.refl _ w).alloc (Nat.le_refl _) _)
  have X0 := hid (show Lbx W w.heap.size x y z R from hW ▸ Lbx.new w x y z R)
  have x0 := X0.out.c0
  have HW := hid hW
  clear hW
  go_enter Try.func42, Try.ntmps42
  go_upto_region 1 with fail
  rw [← HW.out]
  go_wp2
  go_ret
  exact ⟨rfl, B0⟩
/-- What find over Numbers tells. -/
def NoneN (l : List (Ld Pm)) (n : Int) (k : Nat) (_ : World) : Prop := ∀ (j : Nat) (p : Ld Pm), j < k → l[j]? = some p → p.1 ≠ n
theorem findn_any {w : World} {B n c : Nat} {A : Option Addr} {l : List (Ld Pm)} (h : Lls w B A n c l) (hB : B ≤ w.heap.size) (x : Int) :
    Calls Try.prog 41 #[.slice A n c, .func (.func 42) #[] #[], .int .i64 x] w fun e w' => ∃ (i : Nat) (t : Bool), e = .returned (.tuple #[.int .i64 (i : Int), .bool t]) ∧ Hid (FndN l x i t ∧ Below w.heap.size w w') := by
  have hl := h.len
  refine (findi_any (NoneN l x) (fun k W => NoneN l x k W ∧ ∃ p, l[k]? = some p ∧ p.1 = x) 42 #[] (fun _ _ => rfl) (h.mono hB) (Nat.le_refl _) x (fun k W W' hI _ => hI) (fun j p hj => absurd hj (Nat.not_lt_zero _)) (fun k p r W hp hb hr hI => ?_)).mono ?_
  · refine number1_any.mono ?_
    rintro e w' ⟨rfl, h2⟩
    refine ⟨_, rfl, hid ⟨?_, h2.out.mono hb.size⟩⟩
    by_cases hx : r.1 = x
    · exact .inl ⟨hx, hI, p, hp, hr.nu ▸ hx⟩
    · refine .inr ⟨hx, fun j q hj hq => ?_⟩
      rcases Nat.lt_or_ge j k with h1 | h1
      · exact hI j q h1 hq
      · obtain rfl : j = k := by omega
        rw [hp] at hq
        injection hq with hq
        exact hq ▸ hr.nu ▸ hx
  · rintro e w' ⟨i, t, rfl, h2⟩
    refine ⟨i, t, rfl, hid ⟨?_, h2.out.2⟩⟩
    rcases h2.out.1 with ⟨rfl, hi, hJ, p, hp, hpx⟩ | ⟨rfl, rfl, hI⟩
    · exact .inl ⟨rfl, hl ▸ hi, p, hp, fnd_at hp hpx hJ⟩
    · exact .inr ⟨rfl, fnd_no (by rw [hl]; exact hI)⟩
/-- What asking for a Number leaves. -/
def NumR (w : World) (l : List (Ld Pm)) (x : Int) (e : Ending) (w' : World) : Prop := ∃ (i : Nat) (t : Bool), e = .returned (.tuple #[.int .i64 (i : Int), .bool t, .int .i64 (askE l x)]) ∧ Hid ((askE l x = 0 → FndN l x i t) ∧ Below w.heap.size w w')
set_option maxHeartbeats 3200000 in
theorem numbers_any {w : World} {B n c : Nat} {A : Option Addr} {l : List (Ld Pm)} (h : Lls w B A n c l) (hB : B ≤ w.heap.size) :
    Calls Try.prog 24 #[.slice A n c] w fun e w' => ∃ g3 g1, e = .returned (.func (.func 40) #[] #[.pointer (some ⟨g3, 0, none⟩), .pointer (some ⟨g1, 0, none⟩)]) ∧ Hid (Boxed w' g3 32 (.int .i64 (lE l)) ∧ Boxed w' g1 22 (.slice A n c) ∧ Below w.heap.size w w') := by
  obtain ⟨W, hW⟩ : ∃ W, W = w.alloc (.cells #[.slice A n c] 22) := ⟨_, rfl⟩
  have B0 := hid (show Below w.heap.size w W from hW ▸ (Below.refl _ w).alloc (Nat.le_refl _) _)
  have X0 := hid (show Boxed W w.heap.size 22 (.slice A n c) from hW ▸ heap_alloc_new w _)
  have x0 := X0.out.cell
  have HW := hid hW
  have HC := hid (pcheck_any ((h.mono hB).below B0.out) B0.out.size)
  clear hW h
  go_enter Try.func24, Try.ntmps24
  go_upto_region 1 with fail
  rw [← HW.out]
  go_wp2_with fail
  refine HC.out.mono ?_
  rintro e w1 ⟨rfl, H1⟩
  have Y1 := hid (show Boxed (w1.alloc (.cells #[.int .i64 0] 32)) w1.heap.size 32 (.int .i64 0) from heap_alloc_new w1 _)
  have B1 := hid ((Below.refl _ w1).alloc (Nat.le_refl w1.heap.size) (.cells #[.int .i64 0] 32))
  have X1 := hid (Boxed.below' (Boxed.below' X0.out H1.out X0.out.lt) B1.out (Nat.lt_of_lt_of_le X0.out.lt H1.out.size))
  have L1 := hid (Nat.lt_of_lt_of_le X0.out.lt H1.out.size)
  go_wp2_with (first
    | (refine gput_cell (P := Try.prog) rfl _ (.tmp 3) (.tmp 5) rfl w1.heap.size 0 (.int .i64 (lE l)) 32 _ #[.int .i64 (lE l)] rfl rfl rfl (by kernel_rfl) Y1.out (show (0 : Nat) < 1 by decide) rfl ?_
       intro w3 x3 q3
       have X3 := hid (And.intro (boxed_at x3) (And.intro (show Boxed w3 w.heap.size 22 (.slice A n c) from q3.at X1.out (by have := L1.out; omega)) (q3.bel (gbelow_on (gbelow_on B0.out (Nat.le_refl _) H1.out) (Nat.le_refl _) B1.out) (Nat.le_trans B0.out.size H1.out.size))))
       clear x3 q3)
    | fail)
  go_ret
  exact ⟨_, _, rfl, X3⟩
set_option maxHeartbeats 3200000 in
theorem numbers1_any {w : World} {B n c g3 g1 : Nat} {A : Option Addr} {l : List (Ld Pm)} (h : Lls w B A n c l) (hB : B ≤ w.heap.size) (h3 : Boxed w g3 32 (.int .i64 (lE l))) (h1 : Boxed w g1 22 (.slice A n c)) (x : Int) :
    Calls Try.prog 40 #[.int .i64 x, .pointer (some ⟨g3, 0, none⟩), .pointer (some ⟨g1, 0, none⟩)] w (NumR w l x) := by
  have c3 := h3.cell
  have c1 := h1.cell
  have HF := hid (findn_any h hB x)
  clear h h3 h1
  by_cases hz : lE l = 0
  case neg =>
    have hne : ¬ lE l = 0 := hz
    have hA : askE l x = lE l := by unfold askE; rw [if_neg hz]
    unfold NumR
    rw [hA]
    generalize lE l = q at *
    clear hA hz
    go_enter Try.func40, Try.ntmps40
    go_wp2
    go_region
    all_goals
      go_wp2
      go_ret3
      exact ⟨0, false, rfl, hid ⟨fun h => absurd h hne, (Below.refl w.heap.size w).drew⟩⟩
  by_cases hx : 0 ≤ x ∧ x ≤ 1048575
  case neg =>
    have hA : askE l x = 2 := by unfold askE; rw [if_pos hz, if_neg hx]
    have CW := hid (within_no hx)
    rw [hz] at c3
    unfold NumR
    rw [hA]
    clear hA hz hx
    go_enter Try.func40, Try.ntmps40
    go_wp2_with fail
    refine (CW.out _).mono ?_
    rintro e w1 ⟨rfl, rfl⟩
    go_wp2
    go_ret3
    exact ⟨0, false, rfl, hid ⟨fun h => absurd h (by decide), Below.refl _ _⟩⟩
  have hA : askE l x = 0 := by unfold askE; rw [if_pos hz, if_pos hx]
  have CW := hid (within_yes hx)
  rw [hz] at c3
  unfold NumR
  rw [hA]
  clear hA hz hx
  go_enter Try.func40, Try.ntmps40
  go_wp2_with fail
  refine (CW.out _).mono ?_
  rintro e w1 ⟨rfl, rfl⟩
  go_wp2_with fail
  refine HF.out.mono ?_
  rintro e w2 ⟨i, t, rfl, H2⟩
  have H2 := hid H2
  go_wp2
  go_ret3
  exact ⟨i, t, rfl, hid ⟨fun _ => H2.out.out.1, H2.out.out.2⟩⟩
end Go.Proofs.Ytdcolnipdipkhaa.Fli


namespace Go.Proofs.Ytdcolnipdipkhaa.Fli
set_option maxRecDepth 100000
open Go.RowKit Go.Shelf Go.Lib

set_option maxHeartbeats 1600000 in
theorem grow_nil (n : Nat) (hn : n ≤ 100000) (w : World) :
    Calls Try.prog 55 #[.slice none 0 0, .int .i64 n] w fun e w' => ∃ v, e = .returned v ∧ Hid (Gw w' w.heap.size 40 15 v 0 [] ∧ Below w.heap.size w w') := by
  rcases Nat.eq_zero_or_pos n with h0 | h0
  · subst h0
    go_enter Try.func55, Try.ntmps55
    go_wp2
    go_ret
    exact ⟨_, rfl, hid ⟨Gw.nil _ _ _ _, Below.refl _ _⟩⟩
  · obtain ⟨i0, hi0, hz0, hzs, hzb⟩ := info_parts infoLd
    obtain ⟨G, hG⟩ : ∃ G, G = grownCap w n 0 40 := ⟨_, rfl⟩
    have hGn : n ≤ G := by rw [hG]; exact grownCap_ge w _ _ _
    have hGm : G ≤ maxLen := by rw [hG]; exact grownCap_le_maxLen w n 0 40 (by unfold maxLen; omega)
    obtain ⟨ROW, hROW⟩ : ∃ ROW : Array Value, ROW = Builtin.zeroCells (Value.agg (lcells 0 0 0 D0)).cells n ++ Builtin.zeroCells (Value.agg (lcells 0 0 0 D0)).cells (G - n) := ⟨_, rfl⟩
    have hrz : ∀ ty, (Builtin.append_ #[22, 3] ty #[.slice none 0 0, .int .i64 (n : Int)]).run Try.prog w =
        .ok (.slice (some ⟨w.heap.size, 0, none⟩) n G) (w.drew.alloc (.cells ROW 40)) := fun ty => by
      have h := Lib.run_append_nil_zeros w 22 3 ty 40 i0 _ .i64 .i64 Try.underlying22 Try.underlying3 hi0 hz0 n h0 (by omega) (by omega) (by rw [hzb]; omega)
      rw [← hG, ← hROW] at h
      exact h
    have hRs : ROW.size = G * 15 := by
      rw [hROW, Array.size_append, size_zeroCells, size_zeroCells]
      show n * 15 + (G - n) * 15 = G * 15
      omega
    have HR : Hid (Gw (w.drew.alloc (.cells ROW 40)) w.heap.size 40 15 (.slice (some ⟨w.heap.size, 0, none⟩) 0 G) 0 [] ∧ Below w.heap.size w (w.drew.alloc (.cells ROW 40))) := hid ⟨Gw.none' (heap_alloc_new w.drew _) (Nat.le_refl _) hGm hRs, ((Below.refl _ w).drew).alloc (Nat.le_refl _) _⟩
    have hG63 : G ≤ 9223372036854775807 := by unfold maxLen at hGm; omega
    have hgt : (n : Int) > 0 := by omega
    have hng : ¬ (n : Int) < 0 := by omega
    have hG0 : ¬ (G = 0) := by omega
    clear hRs hROW hG
    go_enter Try.func55, Try.ntmps55
    go_wp2_with (at_builtin; refine Lib.wpList_append_run _ rfl _ _ _ _ rfl _ _ rfl rfl _ _ (hrz _) ?_)
    go_ret
    exact ⟨_, rfl, HR⟩

/-- The first j rows of loads, put together. -/
def catsL (L : Nat → List Lr) : Nat → List Lr
  | 0 => []
  | j + 1 => catsL L j ++ L j
theorem catsL_le (L : Nat → List Lr) {j k : Nat} (h : j ≤ k) : (catsL L j).length ≤ (catsL L k).length := by
  induction k with
  | zero => obtain rfl : j = 0 := by omega
            exact Nat.le_refl _
  | succ k ih =>
    rcases Nat.lt_or_ge k j with h1 | h1
    · obtain rfl : j = k + 1 := by omega
      exact Nat.le_refl _
    · have := ih h1
      rw [show catsL L (k + 1) = catsL L k ++ L k from rfl, List.length_append]
      omega
theorem gs_rows {w : World} {B n c : Nat} {A : Option Addr} {rs : List Lr} (h : Gs w B A n c 15 (cellsL rs)) : rs.length = n := by
  have := h.len
  rw [cellsL_length] at this
  omega
set_option maxHeartbeats 3200000 in
theorem concat_any {w : World} {b off k c : Nat} (S : Nat → Option Addr × Nat × Nat) (L : Nat → List Lr) (h : ∀ j, j < k → w.cell? ⟨b, off + j, none⟩ = some (.slice (S j).1 (S j).2.1 (S j).2.2) ∧ Gs w w.heap.size (S j).1 (S j).2.1 (S j).2.2 15 (cellsL (L j))) (hb : b < w.heap.size) (hk : k ≤ 1000) (hkc : k ≤ c) (hs : (catsL L k).length ≤ 100000) :
    Calls Try.prog 46 #[.slice (some ⟨b, off, none⟩) k c] w fun e w' => ∃ v, e = .returned v ∧ Hid (Gw w' w.heap.size 40 15 v (catsL L k).length (cellsL (catsL L k)) ∧ Below w.heap.size w w') := by
  have H := hid h
  have HS := hid hs
  have Hb := hid hb
  clear h hs
  go_enter Try.func46, Try.ntmps46
  go_wp2
  go_loopg [3, 5, 11] k (fun gg s3 _ s11 wr => ∃ kk : Nat, kk ≤ k ∧ k - kk ≤ gg ∧ s11 = .int .i64 kk ∧ s3 = .int .i64 ((catsL L kk).length : Nat) ∧ Hid (Below w.heap.size w wr))
  case atStart => exact ⟨0, Nat.zero_le _, by omega, rfl, rfl, hid (Below.refl _ w)⟩
  case round =>
    obtain ⟨kk, hkk, hg, rfl, rfl, BW⟩ := hrel
    obtain ⟨a, ha⟩ : ∃ a, a = (catsL L kk).length := ⟨_, rfl⟩
    rw [← ha]
    by_cases hlt : kk < k
    · have hltz : (kk : Int) < (k : Int) := by omega
      obtain ⟨hc, hD⟩ := H.out kk hlt
      have hcell := (BW.out.cell (p := ⟨b, off + kk, none⟩) hb).trans hc
      have hlen := gs_rows hD
      have hmx := hD.max
      have hle := catsL_le L (show kk + 1 ≤ k by omega)
      have hnx : (catsL L (kk + 1)).length = a + (S kk).2.1 := by
        rw [show catsL L (kk + 1) = catsL L kk ++ L kk from rfl, List.length_append, ← ha, hlen]
      have hle2 := HS.out
      obtain ⟨⟨A, n, cc⟩, hS⟩ : ∃ x, x = S kk := ⟨_, rfl⟩
      rw [← hS] at hcell hnx
      change wr.cell? ⟨b, off + kk, none⟩ = some (.slice A n cc) at hcell
      have hsum : a + n ≤ 100000 := by rw [hnx] at hle; exact Nat.le_trans hle hle2
      have hng : ¬ ((a : Int) + (n : Int) < 0) := by omega
      have HN := hid hnx
      clear hc hD hlen hmx hle hnx hle2 hS ha
      go_wp2
      go_roundg (k - (kk + 1))
      case measure => omega
      case rel =>
        refine ⟨kk + 1, by omega, by omega, by go_num, ?_, BW⟩
        rw [HN.out]
        go_num
    · have hltz : ¬ (kk : Int) < (k : Int) := by omega
      obtain rfl : kk = k := by omega
      have HG := hid (grow_nil a (by have := HS.out; omega) wr)
      have HBW := hid BW.out.size
      clear ha
      go_wp2_with (first | (go_at_call 55; refine HG.out.mono ?_; rintro e w1 ⟨v1, rfl, HV⟩) | go_in)
      go_loopg [6, 8, 27] kk (fun gg s6 _ s27 wx => ∃ i : Nat, i ≤ kk ∧ kk - i ≤ gg ∧ s27 = .int .i64 i ∧ Hid (Gw wx w.heap.size 40 15 s6 (catsL L i).length (cellsL (catsL L i)) ∧ Below w.heap.size w wx))
      case atStart => exact ⟨0, Nat.zero_le _, by omega, rfl, hid ⟨HV.out.1.mono HBW.out, BW.out.trans (HV.out.2.mono HBW.out)⟩⟩
      case round =>
        obtain ⟨i, hi, hg, rfl, HI⟩ := hrel
        by_cases hlt : i < kk
        · have hltz : (i : Int) < (kk : Int) := by omega
          obtain ⟨hc, hD⟩ := H.out i hlt
          have hcell := (HI.out.2.cell (p := ⟨b, off + i, none⟩) hb).trans hc
          have hle := catsL_le L (show i + 1 ≤ kk by omega)
          have hnx : (catsL L (i + 1)).length = (catsL L i).length + (S i).2.1 := by
            rw [show catsL L (i + 1) = catsL L i ++ L i from rfl, List.length_append, gs_rows hD]
          have hle2 := HS.out
          have hDs := hD.below HI.out.2
          have hmx := hD.max
          have hcap := hD.cap
          obtain ⟨⟨A, n, cc⟩, hS⟩ : ∃ x, x = S i := ⟨_, rfl⟩
          rw [← hS] at hcell hnx hDs hmx hcap
          change wr.cell? ⟨b, off + i, none⟩ = some (.slice A n cc) at hcell
          change Gs wr w.heap.size A n cc 15 (cellsL (L i)) at hDs
          have HSum : Hid ((catsL L i).length + n ≤ 100000) := hid (by rw [hnx] at hle; exact Nat.le_trans hle hle2)
          have HDs := hid hDs
          have HN := hid hnx
          clear hc hD hle hnx hle2 hS hDs
          go_wp2_with (first
            | (at_builtin; refine list_appG rfl _ _ rfl Try.underlying22 infoLd rfl (by decide) (by decide) rfl rfl HI.out.1 HDs.out (cellsL_one _) HSum.out HI.out.2.size ?_; intro v' w' HT)
            | go_in)
          have HT := hid HT
          go_roundg (kk - (i + 1))
          case measure => omega
          case rel =>
            refine ⟨i + 1, by omega, by omega, by go_num, hid ⟨?_, HI.out.2.trans (HT.out.out.below HI.out.1 HI.out.2.size)⟩⟩
            have := HT.out.out.own
            rw [← cellsL_append] at this
            rw [HN.out]
            exact this
        · have hltz : ¬ (i : Int) < (kk : Int) := by omega
          obtain rfl : i = kk := by omega
          go_wp2
          go_ret
          exact ⟨_, rfl, HI⟩
end Go.Proofs.Ytdcolnipdipkhaa.Fli

