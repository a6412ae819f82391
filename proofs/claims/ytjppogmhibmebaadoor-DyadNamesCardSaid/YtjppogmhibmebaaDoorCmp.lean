/- Contracts: compare, Cmp, slices.Equal, Same. -/
import Derived.Test.YtjppogmhibmebaaDoorCut
namespace Go.Proofs.YtjppogmhibmebaaDoor
open Go.RowKit

/-- A number is handed back, and memory has not turned (but for draws). -/
def Told (w : World) (r : Int) (e : Ending) (w' : World) : Prop := e = .returned (.int .i64 r) ∧ ∃ q, w.drewN q = w'

set_option maxHeartbeats 400000 in
theorem compare_less (A D : Option Addr) (n c m d : Nat) (w : World) (h : n < m) (_h1 : n ≤ c) (_h2 : n ≤ 140737488355328) (_h3 : m ≤ d) (_h4 : m ≤ 140737488355328) :
    Calls Tryd.prog 94 #[.slice A n c, .slice D m d] w (Told w (-1)) := by
  have hb : (((n : Nat) : Int) != ((m : Nat) : Int)) = true := by simp; omega
  go_enter Tryd.func94, Tryd.ntmps94
  go_wp2
  go_ret
  exact ⟨rfl, 0, rfl⟩

set_option maxHeartbeats 400000 in
theorem compare_more (A D : Option Addr) (n c m d : Nat) (w : World) (h : m < n) (_h1 : n ≤ c) (_h2 : n ≤ 140737488355328) (_h3 : m ≤ d) (_h4 : m ≤ 140737488355328) :
    Calls Tryd.prog 94 #[.slice A n c, .slice D m d] w (Told w 1) := by
  have hb : (((n : Nat) : Int) != ((m : Nat) : Int)) = true := by simp; omega
  go_enter Tryd.func94, Tryd.ntmps94
  go_wp2
  go_ret
  exact ⟨rfl, 0, rfl⟩

set_option maxHeartbeats 400000 in
theorem compare_nil (A D : Option Addr) (c d : Nat) (w : World) :
    Calls Tryd.prog 94 #[.slice A 0 c, .slice D 0 d] w (Told w 0) := by
  go_enter Tryd.func94, Tryd.ntmps94
  go_wp2
  refine wp_loop_rounds 1 ?_
  rw [rounds_succ]
  go_wp2
  go_ret
  exact ⟨rfl, 0, rfl⟩

set_option maxHeartbeats 1600000 in
theorem compare_same (b o b2 o2 n c d : Nat) (f g : Nat → Nat) (w : World) (_hc : n ≤ c) (_hm : n ≤ 140737488355328) (_hd : n ≤ d) (hf : ∀ j, f j < 4294967296) (hg : ∀ j, g j < 4294967296)
    (h1 : ∀ j, j < n → w.cell? ⟨b, o + j, none⟩ = some (.int .u32 (f j : Int))) (h2 : ∀ j, j < n → w.cell? ⟨b2, o2 + j, none⟩ = some (.int .u32 (g j : Int))) :
    Calls Tryd.prog 94 #[.slice (some ⟨b, o, none⟩) n c, .slice (some ⟨b2, o2, none⟩) n d] w (Told w (cmpN (vl f n) (vl g n))) := by
  have Hf := hid hf
  have Hg := hid hg
  clear hf hg
  go_enter Tryd.func94, Tryd.ntmps94
  go_wp2
  go_loopw [5] (fun i wr => ∃ k : Nat, k ≤ n ∧ i = .int .i64 ((k : Int) - 1) ∧ (∀ j, k ≤ j → j < n → f j = g j) ∧ ∃ q, w.drewN q = wr) (fun i _ => ((intOf i) + 1).toNat)
  case atStart => exact ⟨n, Nat.le_refl _, rfl, fun j h1 h2 => by omega, 0, rfl⟩
  case round =>
    obtain ⟨k, hk, rfl, heq, q, rfl⟩ := hrel
    have Heq := hid heq
    clear heq
    rcases Nat.eq_zero_or_pos k with h0 | h0
    · subst h0
      clear h1 h2
      go_wp2
      go_ret
      exact ⟨by rw [cmpN_eq (vl_congr fun j hj => Heq.out j (by omega) hj)]; rfl, q, rfl⟩
    · obtain ⟨j, rfl⟩ : ∃ j, k = j + 1 := ⟨k - 1, by omega⟩
      have c1 := h1 j (by omega)
      have c2 := h2 j (by omega)
      have i1 : (j : Int) < (n : Int) := by omega
      have ei : (((j + 1 : Nat) : Int) - 1) = (j : Int) := by omega
      rw [ei]
      clear ei h1 h2
      generalize hfj : f j = x at *
      generalize hgj : g j = y at *
      have Hfj := hid hfj
      have Hgj := hid hgj
      clear hfj hgj
      rcases Nat.lt_trichotomy x y with hlt | heq | hgt
      · have t1 : ((x : Nat) : Int) < (y : Int) := by omega
        go_wp2
        go_quiet (fail)
        go_wp2
        go_ret
        exact ⟨by rw [cmpN_lt (vl_less Hf.out (k := j) (by rw [Hfj.out, Hgj.out]; exact hlt) (by omega) (fun i h1 h2 => Heq.out i (by omega) h2))]; rfl, _, (World.drewN_drewN _ _ _).symm⟩
      · subst heq
        have t1 : ¬ ((x : Nat) : Int) < (x : Int) := by omega
        go_wp2
        go_quiet (fail)
        go_wp2
        go_quiet (fail)
        go_wp2
        go_roundw
        case rel => exact ⟨j, by omega, rfl, fun i h1 h2 => by
          rcases Nat.lt_or_ge j i with h | h
          · exact Heq.out i h h2
          · obtain rfl : i = j := by omega
            exact Hfj.out.trans Hgj.out.symm, _, rfl⟩
        case measure => simp [intOf]
      · have t1 : ¬ ((x : Nat) : Int) < (y : Int) := by omega
        have t2 : ((y : Nat) : Int) < (x : Int) := by omega
        go_wp2
        go_quiet (fail)
        go_wp2
        go_quiet (fail)
        go_wp2
        go_ret
        exact ⟨by rw [cmpN_gt (vl_less Hg.out (k := j) (by rw [Hfj.out, Hgj.out]; exact hgt) (by omega) (fun i h1 h2 => (Heq.out i (by omega) h2).symm))]; rfl, _, drewN3 _ _ _ _⟩

/-- How two numbers that may be stand. -/
theorem compare_any {B C : Nat} {A D : Option Addr} {n c m d : Nat} {f h : Nat → Nat} {w : World} (ha : Rd w B A n c f) (hb : Rd w C D m d h) (hf : Fit n f) (hh : Fit m h) :
    Calls Tryd.prog 94 #[.slice A n c, .slice D m d] w (Told w (cmpN (vl f n) (vl h m))) := by
  rcases Nat.lt_trichotomy n m with hlt | he | hgt
  · rw [cmpN_lt (vl_len_lt ha.lt hh.2 hlt)]
    exact compare_less A D n c m d w hlt ha.cap ha.max hb.cap hb.max
  · subst he
    rcases Nat.eq_zero_or_pos n with h0 | h0
    · subst h0
      exact compare_nil A D c d w
    · obtain ⟨b, o, rfl, _, h1⟩ := ha.at_ h0
      obtain ⟨b2, o2, rfl, _, h2⟩ := hb.at_ h0
      exact compare_same b o b2 o2 n c d f h w ha.cap ha.max hb.cap ha.lt hb.lt h1 h2
  · rw [cmpN_gt (vl_len_lt hb.lt hf.2 hgt)]
    exact compare_more A D n c m d w hgt ha.cap ha.max hb.cap hb.max

/-- Cmp's answer. -/
def cmpErr (n : Nat) (f : Nat → Nat) (m : Nat) (h : Nat → Nat) : Int := if Fit n f ∧ Fit m h then 0 else 8
def cmpRes (n : Nat) (f : Nat → Nat) (m : Nat) (h : Nat → Nat) : Int := if Fit n f ∧ Fit m h then cmpN (vl f n) (vl h m) else 0

def TwoInts (w : World) (a b : Int) (e : Ending) (w' : World) : Prop := e = .returned (.tuple #[.int .i64 a, .int .i64 b]) ∧ Below w.heap.size w w'

theorem cell_row2_0 (w : World) (a b : Value) (t : TypeId) : (w.alloc (.cells #[a, b] t)).cell? ⟨w.heap.size, 0, none⟩ = some a := by
  rw [World.cell?_alloc_at _ _ _ _ rfl]; rfl
theorem cell_row2_1 (w : World) (a b : Value) (t : TypeId) : (w.alloc (.cells #[a, b] t)).cell? ⟨w.heap.size, 1, none⟩ = some b := by
  rw [World.cell?_alloc_at _ _ _ _ rfl]; rfl
theorem cell_row1_0 (w : World) (a : Value) (t : TypeId) : (w.alloc (.cells #[a] t)).cell? ⟨w.heap.size, 0, none⟩ = some a := by
  rw [World.cell?_alloc_at _ _ _ _ rfl]; rfl

/-- anyBad, as the calls of package limb hand two numbers to it, or one. -/
theorem bad_pair {A D : Option Addr} {n c m d : Nat} {f h : Nat → Nat} {w : World} (ha : Rd w w.heap.size A n c f) (hb : Rd w w.heap.size D m d h) (t : TypeId) :
    Calls Tryd.prog 86 #[.slice (some ⟨w.heap.size, 0, none⟩) 2 2] (w.alloc (.cells #[.slice A n c, .slice D m d] t)) fun e w' => e = .returned (.bool (decide (¬ (Fit n f ∧ Fit m h)))) ∧ (w.alloc (.cells #[.slice A n c, .slice D m d] t)) = w' :=
  bad_two (ha.below ((Below.refl _ w).alloc (Nat.le_refl _) _)) (hb.below ((Below.refl _ w).alloc (Nat.le_refl _) _)) w.heap.size (cell_row2_0 _ _ _ _) (cell_row2_1 _ _ _ _)
theorem bad_lone {A : Option Addr} {n c : Nat} {f : Nat → Nat} {w : World} (ha : Rd w w.heap.size A n c f) (t : TypeId) :
    Calls Tryd.prog 86 #[.slice (some ⟨w.heap.size, 0, none⟩) 1 1] (w.alloc (.cells #[.slice A n c] t)) fun e w' => e = .returned (.bool (decide (¬ Fit n f))) ∧ (w.alloc (.cells #[.slice A n c] t)) = w' :=
  bad_one (ha.below ((Below.refl _ w).alloc (Nat.le_refl _) _)) w.heap.size (cell_row1_0 _ _ _)

theorem below_told {w0 w w' : World} {r : Int} {e : Ending} (h : Told w r e w') (hb : Below w0.heap.size w0 w) : Below w0.heap.size w0 w' := by
  obtain ⟨_, q, rfl⟩ := h
  exact below_drewN hb q

set_option maxHeartbeats 800000 in
theorem cmp_any {A D : Option Addr} {n c m d : Nat} {f h : Nat → Nat} {w : World} (ha : Rd w w.heap.size A n c f) (hb : Rd w w.heap.size D m d h) :
    Calls Tryd.prog 72 #[.slice A n c, .slice D m d] w (TwoInts w (cmpRes n f m h) (cmpErr n f m h)) := by
  have cb := bad_pair ha hb 22
  by_cases hf : Fit n f ∧ Fit m h
  · rw [show decide (¬ (Fit n f ∧ Fit m h)) = false by simp [hf]] at cb
    rw [show cmpRes n f m h = cmpN (vl f n) (vl h m) from if_pos hf, show cmpErr n f m h = 0 from if_pos hf]
    have Cc := hid (compare_any (ha.below ((Below.refl _ w).alloc (Nat.le_refl _) (.cells #[.slice A n c, .slice D m d] 22))) (hb.below ((Below.refl _ w).alloc (Nat.le_refl _) (.cells #[.slice A n c, .slice D m d] 22))) hf.1 hf.2)
    have Cb := hid cb
    clear cb hf ha hb
    generalize cmpN (vl f n) (vl h m) = r at *
    go_enter Tryd.func72, Tryd.ntmps72
    go_wp2_with fail
    refine Cb.out.mono ?_
    rintro e w' ⟨rfl, rfl⟩
    go_wp2_with fail
    refine Cc.out.mono ?_
    rintro e w' ⟨rfl, q, rfl⟩
    go_wp2
    go_ret2
    exact ⟨rfl, below_drewN ((Below.refl _ _).alloc (Nat.le_refl _) _) _⟩
  · rw [show decide (¬ (Fit n f ∧ Fit m h)) = true by simp [hf]] at cb
    rw [show cmpRes n f m h = 0 from if_neg hf, show cmpErr n f m h = 8 from if_neg hf]
    have Cb := hid cb
    clear cb hf ha hb
    go_enter Tryd.func72, Tryd.ntmps72
    go_wp2_with fail
    refine Cb.out.mono ?_
    rintro e w' ⟨rfl, rfl⟩
    go_wp2
    go_ret2
    exact ⟨rfl, (Below.refl _ _).alloc (Nat.le_refl _) _⟩

set_option maxHeartbeats 400000 in
theorem equal_len (A B : Option Addr) (n c m d : Nat) (w : World) (hne : n ≠ m) :
    Calls Tryd.prog 73 #[.slice A n c, .slice B m d] w fun e w' => e = .returned (.bool false) ∧ w = w' := by
  have h : (((n : Nat) : Int) != ((m : Nat) : Int)) = true := by simp; omega
  go_enter Tryd.func73, Tryd.ntmps73
  go_wp2
  go_ret
  exact ⟨rfl, rfl⟩

theorem equal_nil (A B : Option Addr) (c d : Nat) (w : World) :
    Calls Tryd.prog 73 #[.slice A 0 c, .slice B 0 d] w fun e w' => e = .returned (.bool true) ∧ w = w' := by
  go_enter Tryd.func73, Tryd.ntmps73
  go_wp2
  refine wp_loop_rounds 1 ?_
  rw [rounds_succ]
  go_wp2
  go_ret
  exact ⟨rfl, rfl⟩

/-- A bool that tells p is handed back, and memory has not turned (but for draws). -/
def Tells (w : World) (p : Prop) (e : Ending) (w' : World) : Prop := ∃ r : Bool, e = .returned (.bool r) ∧ (r = true ↔ p) ∧ ∃ q, w.drewN q = w'

set_option maxHeartbeats 800000 in
theorem equal_same (b o b2 o2 n c d : Nat) (f g : Nat → Nat) (w : World) (_hc : n ≤ c) (_hm : n ≤ 140737488355328) (_hd : n ≤ d)
    (h1 : ∀ j, j < n → w.cell? ⟨b, o + j, none⟩ = some (.int .u32 (f j : Int))) (h2 : ∀ j, j < n → w.cell? ⟨b2, o2 + j, none⟩ = some (.int .u32 (g j : Int))) :
    Calls Tryd.prog 73 #[.slice (some ⟨b, o, none⟩) n c, .slice (some ⟨b2, o2, none⟩) n d] w (Tells w (∀ j, j < n → f j = g j)) := by
  go_enter Tryd.func73, Tryd.ntmps73
  go_wp2
  go_loopw [13] (fun i wr => ∃ k : Nat, k ≤ n ∧ i = .int .i64 k ∧ (∀ j, j < k → f j = g j) ∧ ∃ q, w.drewN q = wr) (fun i _ => n - (intOf i).toNat)
  case atStart => exact ⟨0, Nat.zero_le _, rfl, fun j h => by omega, 0, rfl⟩
  case round =>
    obtain ⟨k, hk, rfl, heq, q, rfl⟩ := hrel
    by_cases hkn : k < n
    · have c1 := h1 k hkn
      have c2 := h2 k hkn
      have i1 : (k : Int) < (n : Int) := by omega
      have Heq := hid heq
      clear heq h1 h2
      by_cases hfg : f k = g k
      · have hb : (((f k : Nat) : Int) != ((g k : Nat) : Int)) = false := by simp; omega
        have Hfg := hid hfg
        clear hfg
        go_wp2
        go_quiet (fail)
        go_wp2
        go_roundw
        case rel => exact ⟨k + 1, by omega, by go_num, fun j hj => by
          rcases Nat.lt_or_ge j k with h | h
          · exact Heq.out j h
          · obtain rfl : j = k := by omega
            exact Hfg.out, _, rfl⟩
        case measure => simp [intOf]; omega
      · have hb : (((f k : Nat) : Int) != ((g k : Nat) : Int)) = true := by simp; omega
        have Hfg := hid hfg
        clear hfg
        go_wp2
        go_quiet (fail)
        go_wp2
        go_ret
        exact ⟨_, rfl, ⟨(fun h => by cases h), (fun h => absurd (h k hkn) Hfg.out)⟩, _, drewN2 _ _ _⟩
    · obtain rfl : k = n := by omega
      have Heq := hid heq
      clear heq h1 h2
      go_wp2
      go_ret
      exact ⟨_, rfl, ⟨fun _ => Heq.out, fun _ => rfl⟩, _, rfl⟩

theorem Tells.of {w : World} {p q : Prop} {e : Ending} {w' : World} (h : Tells w p e w') (hpq : p ↔ q) : Tells w q e w' := by
  obtain ⟨r, he, hr, hw⟩ := h
  exact ⟨r, he, hr.trans hpq, hw⟩

theorem equal_any {B C : Nat} {A D : Option Addr} {n c m d : Nat} {f h : Nat → Nat} {w : World} (ha : Rd w B A n c f) (hb : Rd w C D m d h) :
    Calls Tryd.prog 73 #[.slice A n c, .slice D m d] w (Tells w (n = m ∧ ∀ j, f j = h j)) := by
  by_cases hnm : n = m
  · subst hnm
    rcases Nat.eq_zero_or_pos n with h0 | h0
    · subst h0
      refine (equal_nil A D c d w).mono ?_
      rintro e w' ⟨rfl, rfl⟩
      exact ⟨true, rfl, ⟨fun _ => ⟨rfl, fun j => by rw [ha.out j (by omega), hb.out j (by omega)]⟩, fun _ => rfl⟩, 0, rfl⟩
    · obtain ⟨b, o, rfl, _, h1⟩ := ha.at_ h0
      obtain ⟨b2, o2, rfl, _, h2⟩ := hb.at_ h0
      refine (equal_same b o b2 o2 n c d f h w ha.cap ha.max hb.cap h1 h2).mono ?_
      intro e w' ht
      refine ht.of ⟨fun hh => ⟨rfl, fun j => ?_⟩, fun hh j _ => hh.2 j⟩
      rcases Nat.lt_or_ge j n with hlt | hge
      · exact hh j hlt
      · rw [ha.out j hge, hb.out j hge]
  · refine (equal_len A D n c m d w hnm).mono ?_
    rintro e w' ⟨rfl, rfl⟩
    exact ⟨false, rfl, ⟨(fun h => by cases h), (fun h => absurd h.1 hnm)⟩, 0, rfl⟩

theorem same_any {B C : Nat} {A D : Option Addr} {n c m d : Nat} {f h : Nat → Nat} {w : World} (ha : Rd w B A n c f) (hb : Rd w C D m d h) :
    Calls Tryd.prog 45 #[.slice A n c, .slice D m d] w (Tells w (n = m ∧ ∀ j, f j = h j)) := by
  have Ce := hid (equal_any ha hb)
  clear ha hb
  go_enter Tryd.func45, Tryd.ntmps45
  go_wp2_with fail
  refine Ce.out.mono ?_
  rintro e w' ⟨r, rfl, hr, q, rfl⟩
  have Hr := hid hr
  clear hr
  go_wp2
  go_ret
  exact ⟨r, rfl, Hr.out, q, rfl⟩

end Go.Proofs.YtjppogmhibmebaaDoor
