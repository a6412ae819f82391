/- Plain arithmetic: numbers by limbs to the base of 2^32, the lowest first. No program is named here. -/
/- Words for slices of uint32 in memory: what is read, and what a call made of its own. No program is named here. -/
/- Contracts: the small functions of package limb: at, Check, places, anyBad. -/
/- Contracts: cut, bounded. -/
/- Contracts: compare, Cmp, slices.Equal, Same. -/
/- 'make' of limbs. -/
/- Contracts: Of, Len32, size, Bits. -/
/- A slice that reads as a number; what a call hands back beside an error. -/
/- Contract: Left. -/
/- Dyads as whole numbers of parts of 2^-4000. -/
/- Contract: limb.Bits. -/
/- The contracts of package limb that whatever asks dyads uses, for numbers that may be. -/
/- slices.Backward over limbs. -/
/- Package ratio: a number that is divided: double, takeOff. -/
/- A loop over an iterator that writes one block of cells between two rounds: what the loop's caller owes, and what it is told. -/
/- The law of XOver again, where the body of a round is told which front of what comes it stands at. -/
/- Package mass: parts. -/
/- Package dyad: lowest, Check, anyBad, side. -/
/- Package dyad: sum. -/
import Derived.WalkKit
import Derived.Laws.BitsAllLaws
import Derived.Laws.BitsLemmas
import Derived.WalkSpells
import Derived.WalkLawsBesides
import Derived.BigQuiet
import Derived.Deep.QuietTactic
import Derived.Laws.CopyOwn
import Derived.Deep.DeepCutAuto
import Derived.Deep.LoopGhost
import Derived.Deep.CutBlock
import Derived.Test.YtbankbehfjogpaaGreatProg
import Derived.Lib.Strings
import Derived.Lib.Slices
import Derived.Lib.Small
import Derived.Lib.Walk
import Derived.Lib.BitFns
import Derived.RangeFuncNested
import Derived.RangeFuncBound
import Derived.RangeFuncCalls
import Derived.RangeFuncLeaves
import Derived.RangeFuncBox
import Derived.Shelf.Abstract
import Derived.Shelf.RegionOpen
import Derived.OwnWalkIn
import Derived.TacticsInMore
import Derived.LoopNIn
import Derived.LoopIn
import Derived.RegionTactic
import Derived.Deep.RegionHeld3
import Derived.Sort.QuietIn
import Derived.Sort.CutIn
namespace Go.Proofs.YtbankbehfjogpaaGreat
def pw (k : Nat) : Nat := 4294967296 ^ k
theorem pw_lt {j k : Nat} (h : j < k) : pw j < pw k := by unfold pw; exact Nat.pow_lt_pow_right (by omega) h
def vl (f : Nat → Nat) : Nat → Nat
  | 0 => 0
  | k + 1 => vl f k + f k * pw k
def Fit (n : Nat) (f : Nat → Nat) : Prop := n ≤ 40 ∧ (0 < n → f (n - 1) ≠ 0)
instance (n : Nat) (f : Nat → Nat) : Decidable (Fit n f) := by unfold Fit; exact inferInstance
def cmpN (a b : Nat) : Int := if a < b then -1 else if a = b then 0 else 1
theorem bit_u32 (x p : Nat) (hx : x < 4294967296) : bits BinOp.and IntKind.u32 ((x : Int) / 2 ^ p) 1 = ((x / 2 ^ p % 2 : Nat) : Int) := by
  have hl : x / 2 ^ p < 4294967296 := Nat.lt_of_le_of_lt (Nat.div_le_self _ _) hx
  have h := u32_and_nat (x / 2 ^ p) 1 hl (by omega)
  rw [Nat.and_one_is_mod] at h
  rw [← h]
  simp
open Go.RowKit
theorem hid {p : Prop} (h : p) : Hid p := h
theorem drewN2 (w : World) (a b : Nat) : w.drewN (a + b) = (w.drewN a).drewN b := (World.drewN_drewN _ _ _).symm
theorem info_one {P : Program} {e : TypeId} {z : Value} {size bytes : Nat} (h : (P.info? e).map (fun i => (i.zero, i.size, i.bytes)) = some (some z, size, bytes)) :
    ∃ i, P.info? e = some i ∧ i.zero = some z ∧ i.size = size ∧ i.bytes = bytes := info_parts h
structure Rd (w : World) (B : Nat) (A : Option Addr) (n c : Nat) (f : Nat → Nat) : Prop where
  cap : n ≤ c
  max : n ≤ 140737488355328
  lt : ∀ j, f j < 4294967296
  out : ∀ j, n ≤ j → f j = 0
  at_ : 0 < n → ∃ b off, A = some ⟨b, off, none⟩ ∧ b < B ∧ ∀ j, j < n → w.cell? ⟨b, off + j, none⟩ = some (.int .u32 (f j : Int))
theorem Rd.below {w w' : World} {B n c : Nat} {A : Option Addr} {f : Nat → Nat} (h : Rd w B A n c f) (hb : Below B w w') : Rd w' B A n c f :=
  ⟨h.cap, h.max, h.lt, h.out, fun hn => by
    obtain ⟨b, off, rfl, hB, hc⟩ := h.at_ hn
    exact ⟨b, off, rfl, hB, fun j hj => (hb.cell (p := ⟨b, off + j, none⟩) hB).trans (hc j hj)⟩⟩
theorem Rd.mono {w : World} {B B' n c : Nat} {A : Option Addr} {f : Nat → Nat} (h : Rd w B A n c f) (hb : B ≤ B') : Rd w B' A n c f :=
  ⟨h.cap, h.max, h.lt, h.out, fun hn => by
    obtain ⟨b, off, rfl, hB, hc⟩ := h.at_ hn
    exact ⟨b, off, rfl, by omega, hc⟩⟩
theorem Rd.nil (w : World) (B : Nat) : Rd w B none 0 0 (fun _ => 0) :=
  ⟨Nat.le_refl _, by omega, fun _ => by show 0 < 4294967296; omega, fun _ _ => rfl, fun h => absurd h (by omega)⟩
def Blk (w : World) (e : TypeId) (g n : Nat) (f : Nat → Nat) : Prop :=
  ∃ cs : Array Value, w.heap[g]? = some (.cells cs e (0, 0)) ∧ cs.size = n ∧ ∀ j, j < n → cs[j]? = some (.int .u32 (f j : Int))
section
variable {w w' : World} {e : TypeId} {g n : Nat} {f : Nat → Nat}
theorem lt_of_heap {o : Obj} (h : w.heap[g]? = some o) : g < w.heap.size := by
  rcases Nat.lt_or_ge g w.heap.size with hlt | hge
  · exact hlt
  · rw [Array.getElem?_eq_none hge] at h; cases h
def Box (w : World) (g : Nat) (t : TypeId) (v : Value) : Prop := w.heap[g]? = some (.cells #[v] t (0, 0))
variable {t : TypeId} {v : Value}
end
structure Mk (w : World) (e : TypeId) (B : Nat) (A : Option Addr) (n c : Nat) (f : Nat → Nat) : Prop where
  cap : n ≤ c
  max : n ≤ 140737488355328
  lt : ∀ j, f j < 4294967296
  out : ∀ j, n ≤ j → f j = 0
  own : (A = none ∧ n = 0 ∧ c = 0) ∨ ∃ g cs, A = some ⟨g, 0, none⟩ ∧ B ≤ g ∧ w.heap[g]? = some (.cells cs e (0, 0)) ∧ c ≤ cs.size ∧ ∀ j, j < n → cs[j]? = some (.int .u32 (f j : Int))
theorem Mk.nil (w : World) (e : TypeId) (B : Nat) : Mk w e B none 0 0 (fun _ => 0) :=
  ⟨Nat.le_refl _, by omega, fun _ => by show 0 < 4294967296; omega, fun _ _ => rfl, .inl ⟨rfl, rfl, rfl⟩⟩
theorem Mk.rd {w : World} {e : TypeId} {B : Nat} {A : Option Addr} {n c : Nat} {f : Nat → Nat} (h : Mk w e B A n c f) : Rd w w.heap.size A n c f :=
  ⟨h.cap, h.max, h.lt, h.out, fun hn => by
    rcases h.own with ⟨_, h0, _⟩ | ⟨g, cs, hA, _, hh, _, hc⟩
    · omega
    · exact ⟨g, 0, hA, lt_of_heap hh, fun j hj => by rw [Nat.zero_add, cell_of_row w g j cs e (0, 0) hh]; exact hc j hj⟩⟩
theorem Mk.below {w w' : World} {e : TypeId} {B B' : Nat} {A : Option Addr} {n c : Nat} {f : Nat → Nat} (h : Mk w e B A n c f) (hb : Below B' w w') (hB : w.heap.size ≤ B') : Mk w' e B A n c f :=
  ⟨h.cap, h.max, h.lt, h.out, by
    rcases h.own with h0 | ⟨g, cs, hA, hg, hh, hs, hc⟩
    · exact .inl h0
    · have := lt_of_heap hh
      exact .inr ⟨g, cs, hA, hg, (hb.block g (by omega)).trans hh, hs, hc⟩⟩
theorem Mk.mono {w : World} {e : TypeId} {B B' : Nat} {A : Option Addr} {n c : Nat} {f : Nat → Nat} (h : Mk w e B A n c f) (hB : B' ≤ B) : Mk w e B' A n c f :=
  ⟨h.cap, h.max, h.lt, h.out, by
    rcases h.own with h0 | ⟨g, cs, hA, hg, hh, hs, hc⟩
    · exact .inl h0
    · exact .inr ⟨g, cs, hA, by omega, hh, hs, hc⟩⟩
def Num (t : TypeId) (B : Nat) (w' : World) (V : Nat) (v : Value) : Prop := ∃ A k c h, v = .slice A k c ∧ Mk w' t B A k c h ∧ Fit k h ∧ vl h k = V
def Ans (t : TypeId) (w : World) (er : Int) (V : Nat) (e : Ending) (w' : World) : Prop :=
  Below w.heap.size w w' ∧ ∃ v, e = .returned (.tuple #[v, .int .i64 er]) ∧ (er = 0 → Num t w.heap.size w' V v) ∧ (er ≠ 0 → v = .slice none 0 0)
set_option maxRecDepth 100000
open Go.RowKit
def chk (n : Nat) (f : Nat → Nat) : Int := if Fit n f then 0 else 8
theorem chk_fit {n : Nat} {f : Nat → Nat} (h : Fit n f) : chk n f = 0 := if_pos h
theorem chk_bad {n : Nat} {f : Nat → Nat} (h : ¬ Fit n f) : chk n f = 8 := if_neg h
set_option maxHeartbeats 400000 in
theorem check_long (A : Option Addr) (n c : Nat) (w : World) (hn : 40 < n) (_hc : n ≤ c) (_hm : n ≤ 140737488355328) :
    Calls Tryz.prog 110 #[.slice A n c] w fun e w' => e = .returned (.int .i64 8) ∧ w = w' := by
  go_enter Tryz.func110, Tryz.ntmps110
  go_wp2
  go_ret
  exact ⟨rfl, rfl⟩
set_option maxHeartbeats 400000 in
theorem check_nil (A : Option Addr) (c : Nat) (w : World) :
    Calls Tryz.prog 110 #[.slice A 0 c] w fun e w' => e = .returned (.int .i64 0) ∧ w = w' := by
  go_enter Tryz.func110, Tryz.ntmps110
  go_wp2
  go_ret
  exact ⟨rfl, rfl⟩
set_option maxHeartbeats 400000 in
theorem check_zero (b off n c : Nat) (w : World) (h0 : 0 < n) (hn : n ≤ 40) (_hc : n ≤ c) (_hm : n ≤ 140737488355328) (hx : w.cell? ⟨b, off + (n - 1), none⟩ = some (.int .u32 0)) :
    Calls Tryz.prog 110 #[.slice (some ⟨b, off, none⟩) n c] w fun e w' => e = .returned (.int .i64 8) ∧ w = w' := by
  go_enter Tryz.func110, Tryz.ntmps110
  go_wp2
  go_ret
  exact ⟨rfl, rfl⟩
set_option maxHeartbeats 400000 in
theorem check_last (b off n c x : Nat) (w : World) (h0 : 0 < n) (hn : n ≤ 40) (_hc : n ≤ c) (_hm : n ≤ 140737488355328) (hx : w.cell? ⟨b, off + (n - 1), none⟩ = some (.int .u32 (x : Int))) (h1 : 0 < x) :
    Calls Tryz.prog 110 #[.slice (some ⟨b, off, none⟩) n c] w fun e w' => e = .returned (.int .i64 0) ∧ w = w' := by
  have hx0 : (((x : Nat) : Int) == 0) = false := by simp; omega
  go_enter Tryz.func110, Tryz.ntmps110
  go_wp2
  go_ret
  exact ⟨rfl, rfl⟩
theorem check_any {B : Nat} {A : Option Addr} {n c : Nat} {f : Nat → Nat} {w : World} (h : Rd w B A n c f) :
    Calls Tryz.prog 110 #[.slice A n c] w fun e w' => e = .returned (.int .i64 (chk n f)) ∧ w = w' := by
  by_cases hf : Fit n f
  · rw [chk_fit hf]
    obtain ⟨h1, h2⟩ := hf
    rcases Nat.eq_zero_or_pos n with h0 | h0
    · subst h0
      exact check_nil A c w
    · obtain ⟨b, off, rfl, _, hc⟩ := h.at_ h0
      exact check_last b off n c _ w h0 h1 h.cap h.max (hc (n - 1) (by omega)) (Nat.pos_of_ne_zero (h2 h0))
  · rw [chk_bad hf]
    by_cases h1 : n ≤ 40
    · have h0 : 0 < n := by
        rcases Nat.eq_zero_or_pos n with h0 | h0
        · exact absurd ⟨h1, fun h => absurd h (by omega)⟩ hf
        · exact h0
      obtain ⟨b, off, rfl, _, hc⟩ := h.at_ h0
      have hz : f (n - 1) = 0 := by
        rcases Nat.eq_zero_or_pos (f (n - 1)) with hz | hz
        · exact hz
        · exact absurd ⟨h1, fun _ => by omega⟩ hf
      have := hc (n - 1) (by omega)
      rw [hz] at this
      exact check_zero b off n c w h0 h1 h.cap h.max this
    · exact check_long A n c w (by omega) h.cap h.max
open Go.RowKit
def cutLen (f : Nat → Nat) : Nat → Nat
  | 0 => 0
  | n + 1 => if f n = 0 then cutLen f n else n + 1
def trim (k : Nat) (f : Nat → Nat) (j : Nat) : Nat := if j < k then f j else 0
def overErr (V : Nat) : Int := if V < pw 40 then 0 else 10
open Go.RowKit
def Told (w : World) (r : Int) (e : Ending) (w' : World) : Prop := e = .returned (.int .i64 r) ∧ ∃ q, w.drewN q = w'
def cmpErr (n : Nat) (f : Nat → Nat) (m : Nat) (h : Nat → Nat) : Int := if Fit n f ∧ Fit m h then 0 else 8
def cmpRes (n : Nat) (f : Nat → Nat) (m : Nat) (h : Nat → Nat) : Int := if Fit n f ∧ Fit m h then cmpN (vl f n) (vl h m) else 0
def TwoInts (w : World) (a b : Int) (e : Ending) (w' : World) : Prop := e = .returned (.tuple #[.int .i64 a, .int .i64 b]) ∧ Below w.heap.size w w'
set_option maxHeartbeats 400000 in
theorem equal_len (A B : Option Addr) (n c m d : Nat) (w : World) (hne : n ≠ m) :
    Calls Tryz.prog 43 #[.slice A n c, .slice B m d] w fun e w' => e = .returned (.bool false) ∧ w = w' := by
  have h : (((n : Nat) : Int) != ((m : Nat) : Int)) = true := by simp; omega
  go_enter Tryz.func43, Tryz.ntmps43
  go_wp2
  go_ret
  exact ⟨rfl, rfl⟩
theorem equal_nil (A B : Option Addr) (c d : Nat) (w : World) :
    Calls Tryz.prog 43 #[.slice A 0 c, .slice B 0 d] w fun e w' => e = .returned (.bool true) ∧ w = w' := by
  go_enter Tryz.func43, Tryz.ntmps43
  go_wp2
  refine wp_loop_rounds 1 ?_
  rw [rounds_succ]
  go_wp2
  go_ret
  exact ⟨rfl, rfl⟩
def Tells (w : World) (p : Prop) (e : Ending) (w' : World) : Prop := ∃ r : Bool, e = .returned (.bool r) ∧ (r = true ↔ p) ∧ ∃ q, w.drewN q = w'
set_option maxHeartbeats 800000 in
theorem equal_same (b o b2 o2 n c d : Nat) (f g : Nat → Nat) (w : World) (_hc : n ≤ c) (_hm : n ≤ 140737488355328) (_hd : n ≤ d)
    (h1 : ∀ j, j < n → w.cell? ⟨b, o + j, none⟩ = some (.int .u32 (f j : Int))) (h2 : ∀ j, j < n → w.cell? ⟨b2, o2 + j, none⟩ = some (.int .u32 (g j : Int))) :
    Calls Tryz.prog 43 #[.slice (some ⟨b, o, none⟩) n c, .slice (some ⟨b2, o2, none⟩) n d] w (Tells w (∀ j, j < n → f j = g j)) := by
  go_enter Tryz.func43, Tryz.ntmps43
  go_wp2
  go_loopw [13] (fun i wr => ∃ k : Nat, k ≤ n ∧ i = .int .i64 k ∧ (∀ j, j < k → f j = g j) ∧ ∃ q, w.drewN q = wr) (fun i _ => n - (intOf i).toNat)
  case atStart => exact ⟨0, Nat.zero_le _, rfl, fun j h => by omega, 0, rfl⟩
  case round =>
    obtain ⟨k, hk, rfl, heq, q, rfl⟩ := hrel
    by_cases hkn : k < n
    · have c1 := h1 k hkn
      have c2 := h2 k hkn
      have i1 : (k : Int) < (n : Int) := by omega
      have Heq := hid heq
      clear heq h1 h2
      by_cases hfg : f k = g k
      · have hb : (((f k : Nat) : Int) != ((g k : Nat) : Int)) = false := by simp; omega
        have Hfg := hid hfg
        clear hfg
        go_wp2
        go_quiet (fail)
        go_wp2
        go_roundw
        case rel => exact ⟨k + 1, by omega, by go_num, fun j hj => by
          rcases Nat.lt_or_ge j k with h | h
          · exact Heq.out j h
          · obtain rfl : j = k := by omega
            exact Hfg.out, _, rfl⟩
        case measure => simp [intOf]; omega
      · have hb : (((f k : Nat) : Int) != ((g k : Nat) : Int)) = true := by simp; omega
        have Hfg := hid hfg
        clear hfg
        go_wp2
        go_quiet (fail)
        go_wp2
        go_ret
        exact ⟨_, rfl, ⟨(fun h => by cases h), (fun h => absurd (h k hkn) Hfg.out)⟩, _, drewN2 _ _ _⟩
    · obtain rfl : k = n := by omega
      have Heq := hid heq
      clear heq h1 h2
      go_wp2
      go_ret
      exact ⟨_, rfl, ⟨fun _ => Heq.out, fun _ => rfl⟩, _, rfl⟩
theorem Tells.of {w : World} {p q : Prop} {e : Ending} {w' : World} (h : Tells w p e w') (hpq : p ↔ q) : Tells w q e w' := by
  obtain ⟨r, he, hr, hw⟩ := h
  exact ⟨r, he, hr.trans hpq, hw⟩
theorem equal_any {B C : Nat} {A D : Option Addr} {n c m d : Nat} {f h : Nat → Nat} {w : World} (ha : Rd w B A n c f) (hb : Rd w C D m d h) :
    Calls Tryz.prog 43 #[.slice A n c, .slice D m d] w (Tells w (n = m ∧ ∀ j, f j = h j)) := by
  by_cases hnm : n = m
  · subst hnm
    rcases Nat.eq_zero_or_pos n with h0 | h0
    · subst h0
      refine (equal_nil A D c d w).mono ?_
      rintro e w' ⟨rfl, rfl⟩
      exact ⟨true, rfl, ⟨fun _ => ⟨rfl, fun j => by rw [ha.out j (by omega), hb.out j (by omega)]⟩, fun _ => rfl⟩, 0, rfl⟩
    · obtain ⟨b, o, rfl, _, h1⟩ := ha.at_ h0
      obtain ⟨b2, o2, rfl, _, h2⟩ := hb.at_ h0
      refine (equal_same b o b2 o2 n c d f h w ha.cap ha.max hb.cap h1 h2).mono ?_
      intro e w' ht
      refine ht.of ⟨fun hh => ⟨rfl, fun j => ?_⟩, fun hh j _ => hh.2 j⟩
      rcases Nat.lt_or_ge j n with hlt | hge
      · exact hh j hlt
      · rw [ha.out j hge, hb.out j hge]
  · refine (equal_len A D n c m d w hnm).mono ?_
    rintro e w' ⟨rfl, rfl⟩
    exact ⟨false, rfl, ⟨(fun h => by cases h), (fun h => absurd h.1 hnm)⟩, 0, rfl⟩
theorem same_any {B C : Nat} {A D : Option Addr} {n c m d : Nat} {f h : Nat → Nat} {w : World} (ha : Rd w B A n c f) (hb : Rd w C D m d h) :
    Calls Tryz.prog 109 #[.slice A n c, .slice D m d] w (Tells w (n = m ∧ ∀ j, f j = h j)) := by
  have Ce := hid (equal_any ha hb)
  clear ha hb
  go_enter Tryz.func109, Tryz.ntmps109
  go_wp2_with fail
  refine Ce.out.mono ?_
  rintro e w' ⟨r, rfl, hr, q, rfl⟩
  have Hr := hid hr
  clear hr
  go_wp2
  go_ret
  exact ⟨r, rfl, Hr.out, q, rfl⟩
open Go.RowKit
theorem info_u32 : (Tryz.prog.info? 75).map (fun i => (i.zero, i.size, i.bytes)) = some (some (.int .u32 0), 1, 4) := by kernel_rfl
open Go.RowKit
def Lone (t : TypeId) (w : World) (V : Nat) (e : Ending) (w' : World) : Prop := ∃ v, e = .returned v ∧ Num t w.heap.size w' V v ∧ Below w.heap.size w w'
def Size (V s : Nat) : Prop := V < 2 ^ s ∧ (0 < s → 2 ^ (s - 1) ≤ V)
open Go.RowKit
def Val (w : World) (V : Nat) (v : Value) : Prop := ∃ A k c f, v = .slice A k c ∧ Rd w w.heap.size A k c f ∧ Fit k f ∧ vl f k = V
def resV (er : Int) (V : Nat) : Nat := if er = 0 then V else 0
def Back (w : World) (E : Int → Prop) (V : Nat) (e : Ending) (w' : World) : Prop := ∃ v er, e = .returned (.tuple #[v, .int .i64 er]) ∧ Hid (E er) ∧ Hid (Val w' (resV er V) v) ∧ Hid (Below w.heap.size w w')
open Go.RowKit
def leftErr (n : Nat) (f : Nat → Nat) (k : Int) : Int := if Fit n f then (if k < 0 then 2 else overErr (vl f n * 2 ^ k.toNat)) else 8
def tp (k : Nat) : Nat := 2 ^ k
theorem tp_succ (k : Nat) : tp (k + 1) = tp k * 2 := by unfold tp; rw [Nat.pow_succ]
def num (s : Bool) (n : Nat) : Int := if s then -(n : Int) else n
def dv (s : Bool) (V x : Nat) : Int := num s (V * tp (4000 - x))
def Canon (s : Bool) (V x : Nat) : Prop := (V = 0 → s = false ∧ x = 0) ∧ (0 < x → V % 2 = 1)
def Okay (M : Int) : Prop := ∃ s V x, Canon s V x ∧ V < pw 40 ∧ x ≤ 1024 ∧ dv s V x = M
def Derr (M : Int) (er : Int) : Prop := (Okay M ∧ er = 0) ∨ (¬ Okay M ∧ er = 10)
open Go.RowKit
def BitsPost (w : World) (n : Nat) (f : Nat → Nat) (e : Ending) (w' : World) : Prop :=
  Below w.heap.size w w' ∧ ∃ s : Nat, e = .returned (.tuple #[.int .i64 (s : Int), .int .i64 (chk n f)]) ∧ (Fit n f → Size (vl f n) s) ∧ (¬ Fit n f → s = 0)
open Go.RowKit
def New (B : Nat) (v : Value) : Prop := ∀ b off n c, v = .slice (some ⟨b, off, none⟩) n c → B ≤ b
def Backn (w : World) (E : Int → Prop) (V : Nat) (e : Ending) (w' : World) : Prop := ∃ v er, e = .returned (.tuple #[v, .int .i64 er]) ∧ Hid (E er) ∧ Hid (Num 75 w.heap.size w' (resV er V) v) ∧ Hid (Below w.heap.size w w')
section
variable {V U : Nat} {w : World} {v1 v2 : Value}
end
open Go.RowKit Go.Shelf
attribute [local go_sem] Oper.semAt_some
def upto {α : Type} (f : Nat → α) (k : Nat) : List α := (List.range k).map f
theorem upto_succ {α : Type} (f : Nat → α) (k : Nat) : upto f (k + 1) = upto f k ++ [f k] := by simp [upto, List.range_succ]
theorem upto_length {α : Type} (f : Nat → α) (k : Nat) : (upto f k).length = k := by simp [upto]
abbrev Idx (m : Nat) := { j : Nat // j < m }
def bkw (m k : Nat) : Nat := m - 1 - k
open Go.RowKit
def dbl (f : Nat → Nat) (j : Nat) : Nat := f j * 2 % 4294967296 + (if j = 0 then 0 else f (j - 1) / 2147483648)
theorem gset0 {w w' : World} {g : Nat} (h : w.grownBy w' (some g)) (j : Nat) (u : Value) : w.grownBy (w'.setCell ⟨g, j, none⟩ u) (some g) :=
  ⟨h.os, h.tape, h.output, by simpa [World.setCell] using h.size, fun i hi hne => (Below.heap_setCell w' ⟨g, j, none⟩ u i (by rintro rfl; exact hne rfl)).trans (h.block i hi hne)⟩
open Go.RowKit
structure Kb (K : Nat → Prop) (W W' : World) : Prop where
  size : W.heap.size ≤ W'.heap.size
  block : ∀ b, K b → W'.heap[b]? = W.heap[b]?
theorem Kb.trans {K : Nat → Prop} {A B C : World} (h : Kb K A B) (k : Kb K B C) : Kb K A C := ⟨Nat.le_trans h.size k.size, fun b hb => (k.block b hb).trans (h.block b hb)⟩
theorem Kb.refl (K : Nat → Prop) (W : World) : Kb K W W := ⟨Nat.le_refl _, fun _ _ => rfl⟩
theorem Kb.putObj {K : Nat → Prop} {W : World} {l : Nat} (o : Obj) (hl : ¬ K l) : Kb K W (W.putObj l o) := ⟨by simp, fun b hb => World.putObj_heap_other (by rintro rfl; exact hl hb)⟩
theorem Kb.setCell {K : Nat → Prop} {A W : World} (h : Kb K A W) {p : Addr} (hl : ¬ K p.block) (v : Value) : Kb K A (W.setCell p v) := ⟨by simpa [World.setCell] using h.size, fun b hb => (Below.heap_setCell W p v b (by rintro rfl; exact hl hb)).trans (h.block b hb)⟩
def outOf {α : Type} (k : Nat) (K : Nat → Prop) (I Ix : List α → World → Prop) (xs : List α) (W : World) : Exit → Act → World → Prop
  | .normal, _, W' => KeepsFrom k W W' ∧ Kb K W W' ∧ I xs W'
  | .ret, _, W' => KeepsFrom k W W' ∧ Ix xs W'
  | _, _, _ => False
def Comes {α : Type} (F : Fence) (n : Nat) (P : Program) (gf : Nat) (lb : Array Value) (encs : α → Array Value) (K : Nat → Prop) (g : Nat) (S : List α → World → Prop) (Sp : List α → Prop) (w : World) : Prop :=
  ∀ (l : Nat) (J Jx : List α → World → Prop) (W : World), Below w.heap.size w W → (∀ s X Y, J s X → X.grownBy Y (some g) → J s Y) →
    (∀ pre x X, J pre X → YieldAt F (n - 1) P l (encs x) X fun e Y => (e = .returned (.bool true) ∧ J (pre ++ [x]) Y ∧ Kb K X Y) ∨ (e = .returned (.bool false) ∧ Jx (pre ++ [x]) Y)) →
    J [] W → CallsIn F n P gf (#[.func (.yield l) #[] #[]] ++ lb) W fun e Y => (∃ v, e = .returned v) ∧ ((∃ xs, S xs Y ∧ J xs Y) ∨ ∃ pre, Sp pre ∧ Jx pre Y)
def Kept (k : Nat) (r : Loop) (W : World) : Prop := W.heap[k + 1]? = some (.loop r) ∧ W.heap[k]? = some (.deferred (some []))
theorem Kept.grown {k : Nat} {r : Loop} {X Y : World} (h : Kept k r X) {j : Nat} (hg : X.grownBy Y (some j)) (hj : j < k) : Kept k r Y :=
  ⟨(hg.block _ (Array.getElem?_eq_some_iff.1 h.1).1 (by intro e; injection e with e; omega)).trans h.1, (hg.block _ (Array.getElem?_eq_some_iff.1 h.2).1 (by intro e; injection e with e; omega)).trans h.2⟩
theorem Kept.keeps {k : Nat} {r : Loop} {X Y : World} (h : Kept k r X) (hk : KeepsFrom k X Y) : Kept k r Y := ⟨hk.same _ _ (by omega) h.1 rfl, hk.same _ _ (Nat.le_refl _) h.2 rfl⟩
theorem Kept.put {k : Nat} {r : Loop} {X : World} (h : Kept k r X) (r' : Loop) : Kept k r' (X.putObj (k + 1) (.loop r')) :=
  ⟨World.putObj_heap_same (Array.getElem?_eq_some_iff.1 h.1).1, (World.putObj_heap_other (by omega)).trans h.2⟩
set_option maxHeartbeats 1000000 in
theorem range_over {F : Fence} {n : Nat} {P : Program} {α : Type} {gop : Operand} {ps : Array Tmp} {assign body : Code} {Q : Exit → Act → World → Prop} {a : Act} {w : World}
    (hro : F.round = none) (h1 : 1 ≤ n) {gf : Nat} {lb : Array Value} (hv : a.eval gop = .func (.func gf) #[] lb) (hF : F.fn gf) (en : ∀ args w, (callFunc gf args).run P w = .ok (.enter gf args) w)
    {encs : α → Array Value} {K : Nat → Prop} {g : Nat} (hgn : K g) (hnw : ∀ b, K b → b < w.heap.size) {S : List α → World → Prop} {Sp : List α → Prop} (hseq : Comes F (n - 1) P gf lb encs K g S Sp w) (hps : ∀ x, (encs x).size = ps.size)
    (I Ix : List α → World → Prop) (hI : ∀ s X Y r, I s X → X.grownBy Y (some r) → (w.heap.size ≤ r ∨ r = g) → I s Y)
    (hIx : ∀ s X Y r, Ix s X → X.grownBy Y (some r) → w.heap.size ≤ r → Ix s Y) (hS : ∀ s X Y r, S s X → X.grownBy Y (some r) → w.heap.size ≤ r → S s Y) (h0 : I [] w) (a₁ : α → Act)
    (hassign : ∀ (l : Nat) (x : α) (W : World) (K : Act → World → Prop), K (a₁ x) W →
      assign.wpIn (F.inRound l) (n - 1 - 1) P (Exit.then K (fun _ _ _ => False)) { tmps := (ps.zip (encs x)).foldl (fun t (p, v) => t.setIfInBounds p v) a.tmps, defers := [] } W)
    (hbody : ∀ (l : Nat) (pre : List α) (x : α) (W : World), I pre W → body.wpIn (F.inRound l) (n - 1 - 1) P (outOf w.heap.size K I Ix (pre ++ [x]) W) (a₁ x) W)
    (hdone : ∀ (D : Nat) (xs : List α) (W : World), w.heap.size ≤ D → S xs W → I xs W → W.heap[D]? = some (.deferred (some [])) → Q .normal { a with defers := { target := .collected D, args := #[] } :: a.defers } W)
    (hstop : ∀ (D : Nat) (pre : List α) (W : World), w.heap.size ≤ D → Sp pre → Ix pre W → W.heap[D]? = some (.deferred (some [])) → Code.ret.wpIn F n P Q { a with defers := { target := .collected D, args := #[] } :: a.defers } W) :
    (Code.rangeFunc gop ps assign body).wpIn F n P Q a w := by
  refine wpIn_rangeFunc fun fn hfn => ?_
  rw [hro]
  let rec0 (st : LoopState) (pe : Option Code) : Loop := { state := st, pending := pe, fn, tmps := a.tmps, params := ps, assign, body, defers := w.heap.size }
  have hsz1 : (w.alloc (.deferred (some []))).heap.size = w.heap.size + 1 := by simp
  have hkept : Kept w.heap.size (rec0 .ready none) ((w.alloc (.deferred (some []))).alloc (.loop (rec0 .ready none))) := by
    refine ⟨?_, (Below.heap_alloc _ _ _ (by simp)).trans (World.alloc_heap_new w _)⟩
    have := World.alloc_heap_new (w.alloc (.deferred (some []))) (.loop (rec0 .ready none))
    rwa [hsz1] at this
  have hI1 : I [] ((w.alloc (.deferred (some []))).alloc (.loop (rec0 .ready none))) :=
    hI _ _ _ _ (hI _ _ _ _ h0 (World.grownBy_alloc w _ (some w.heap.size)) (.inl (Nat.le_refl _))) (World.grownBy_alloc _ _ (some w.heap.size)) (.inl (Nat.le_refl _))
  have hb1 : Below w.heap.size w ((w.alloc (.deferred (some []))).alloc (.loop (rec0 .ready none))) := ((Below.refl _ w).alloc (Nat.le_refl _) _).alloc (by simp) _
  generalize hW1 : (w.alloc (.deferred (some []))).alloc (.loop (rec0 .ready none)) = W1 at hkept hI1 hb1
  refine ⟨w.heap.size + 1, [{ target := .collected w.heap.size, args := #[] }], W1, { target := .fn (.func gf) lb, args := #[.func (.yield (w.heap.size + 1)) #[] #[]] }, W1, gf,
    #[.func (.yield (w.heap.size + 1)) #[] #[]] ++ lb, W1, ?_, ?_, ?_, ?_, fun _ => h1, ?_⟩
  · rw [← hW1]; exact run_enterLoop_outer _ _ _ _ _
  · simp only [resolve, hv]
    simp [go_sem]
  · intro f hf; simp [Target.leads] at hf; exact hf ▸ hF
  · simp [invoke, go_sem, en]
  have hround : ∀ (pre : List α) (x : α) (X : World), (I pre X ∧ Kept w.heap.size (rec0 .ready none) X) →
      YieldAt F (n - 1 - 1) P (w.heap.size + 1) (encs x) X fun e Y =>
        (e = .returned (.bool true) ∧ (I (pre ++ [x]) Y ∧ Kept w.heap.size (rec0 .ready none) Y) ∧ Kb K X Y) ∨
        (e = .returned (.bool false) ∧ (Ix (pre ++ [x]) Y ∧ Kept w.heap.size (rec0 .done (some .ret)) Y)) := by
    rintro pre x X ⟨hi, hk⟩
    refine ⟨fn, _, assign, body, run_yield (P := P) (args := encs x) hk.1 (hps x), roundIn_of_wpIn hfn (hassign _ x X _ ⟨_, run_beginRound hk.1 rfl, ?_⟩)⟩
    have hnK : ¬ K (w.heap.size + 1) := fun h => by have := hnw _ h; omega
    have hbz : Kb K X (X.putObj (w.heap.size + 1) (.loop { rec0 .ready none with state := .busy })) := Kb.putObj _ hnK
    have hkz := hk.put (rec0 .busy none)
    refine wpIn_mono (hbody _ pre x _ (hI _ _ _ _ hi (grownBy_putObj' X (w.heap.size + 1) _) (.inl (by omega)))) ?_
    rintro e a3 Z hp
    cases e with
    | normal =>
      obtain ⟨hkp, hbl, hi3⟩ := hp
      have hkZ := hkz.keeps hkp
      exact ⟨_, _, run_endRound (P := P) none hkZ.1, .inl ⟨rfl, ⟨hI _ _ _ _ hi3 (grownBy_putObj' Z (w.heap.size + 1) _) (.inl (by omega)), hkZ.put _⟩, (hbz.trans hbl).trans (Kb.putObj _ hnK)⟩⟩
    | ret =>
      obtain ⟨hkp, hi3⟩ := hp
      have hkZ := hkz.keeps hkp
      exact ⟨_, _, run_endRound (P := P) (some .ret) hkZ.1, .inr ⟨rfl, hIx _ _ _ _ hi3 (grownBy_putObj' Z (w.heap.size + 1) _) (by omega), hkZ.put _⟩⟩
    | exit _ => exact hp.elim
    | goto _ => exact hp.elim
    | panic _ => exact hp.elim
    | outgrown => exact hp.elim
  refine (hseq (w.heap.size + 1) (fun pre X => I pre X ∧ Kept w.heap.size (rec0 .ready none) X) (fun pre X => Ix pre X ∧ Kept w.heap.size (rec0 .done (some .ret)) X) W1 hb1
    (fun s X Y h hg => ⟨hI _ _ _ _ h.1 hg (.inr rfl), h.2.grown hg (hnw _ hgn)⟩) hround ⟨hI1, hkept⟩).mono ?_
  rintro e Y ⟨⟨v, rfl⟩, (⟨xs, hs, hi, hk⟩ | ⟨pre, hs, hi, hk⟩)⟩
  · exact ⟨none, _, run_endLoop (P := P) hk.1 (by simp [rec0]), hdone _ xs _ (Nat.le_refl _) (hS _ _ _ _ hs (grownBy_putObj' Y (w.heap.size + 1) _) (by omega)) (hI _ _ _ _ hi (grownBy_putObj' Y (w.heap.size + 1) _) (.inl (by omega))) (hk.put { rec0 .ready none with state := .exhausted }).2⟩
  · exact ⟨some .ret, _, run_endLoop (P := P) hk.1 (by simp [rec0]), hstop _ pre _ (Nat.le_refl _) hs (hIx _ _ _ _ hi (grownBy_putObj' Y (w.heap.size + 1) _) (by omega)) (hk.put { rec0 .done (some .ret) with state := .exhausted }).2⟩
open Go.RowKit
def ComesG {α : Type} (F : Fence) (n : Nat) (P : Program) (gf : Nat) (lb : Array Value) (encs : α → Array Value) (K : Nat → Prop) (g : Nat) (Gd : List α → Prop) (S : List α → World → Prop) (Sp : List α → Prop) (w : World) : Prop :=
  ∀ (l : Nat) (J Jx : List α → World → Prop) (W : World), Below w.heap.size w W → (∀ s X Y, J s X → X.grownBy Y (some g) → J s Y) →
    (∀ pre x X, Gd (pre ++ [x]) → J pre X → YieldAt F (n - 1) P l (encs x) X fun e Y => (e = .returned (.bool true) ∧ J (pre ++ [x]) Y ∧ Kb K X Y) ∨ (e = .returned (.bool false) ∧ Jx (pre ++ [x]) Y)) →
    J [] W → CallsIn F n P gf (#[.func (.yield l) #[] #[]] ++ lb) W fun e Y => (∃ v, e = .returned v) ∧ ((∃ xs, S xs Y ∧ J xs Y) ∨ ∃ pre, Sp pre ∧ Jx pre Y)
set_option maxHeartbeats 1000000 in
theorem range_overG {F : Fence} {n : Nat} {P : Program} {α : Type} {gop : Operand} {ps : Array Tmp} {assign body : Code} {Q : Exit → Act → World → Prop} {a : Act} {w : World}
    (hro : F.round = none) (h1 : 1 ≤ n) {gf : Nat} {lb : Array Value} (hv : a.eval gop = .func (.func gf) #[] lb) (hF : F.fn gf) (en : ∀ args w, (callFunc gf args).run P w = .ok (.enter gf args) w)
    {encs : α → Array Value} {K : Nat → Prop} {g : Nat} (hgn : K g) (hnw : ∀ b, K b → b < w.heap.size) {Gd : List α → Prop} {S : List α → World → Prop} {Sp : List α → Prop} (hseq : ComesG F (n - 1) P gf lb encs K g Gd S Sp w) (hps : ∀ x, (encs x).size = ps.size)
    (I Ix : List α → World → Prop) (hI : ∀ s X Y r, I s X → X.grownBy Y (some r) → (r = w.heap.size ∨ r = w.heap.size + 1 ∨ r = g) → I s Y)
    (hIx : ∀ s X Y r, Ix s X → X.grownBy Y (some r) → r = w.heap.size ∨ r = w.heap.size + 1 → Ix s Y) (hS : ∀ s X Y r, S s X → X.grownBy Y (some r) → r = w.heap.size ∨ r = w.heap.size + 1 → S s Y) (h0 : I [] w) (a₁ : α → Act)
    (hassign : ∀ (l : Nat) (x : α) (W : World) (K : Act → World → Prop), K (a₁ x) W →
      assign.wpIn (F.inRound l) (n - 1 - 1) P (Exit.then K (fun _ _ _ => False)) { tmps := (ps.zip (encs x)).foldl (fun t (p, v) => t.setIfInBounds p v) a.tmps, defers := [] } W)
    (hbody : ∀ (l : Nat) (pre : List α) (x : α) (W : World), Gd (pre ++ [x]) → w.heap.size + 2 ≤ W.heap.size → I pre W → body.wpIn (F.inRound l) (n - 1 - 1) P (outOf w.heap.size K I Ix (pre ++ [x]) W) (a₁ x) W)
    (hdone : ∀ (D : Nat) (xs : List α) (W : World), D = w.heap.size → S xs W → I xs W → W.heap[D]? = some (.deferred (some [])) → Q .normal { a with defers := { target := .collected D, args := #[] } :: a.defers } W)
    (hstop : ∀ (D : Nat) (pre : List α) (W : World), D = w.heap.size → Sp pre → Ix pre W → W.heap[D]? = some (.deferred (some [])) → Code.ret.wpIn F n P Q { a with defers := { target := .collected D, args := #[] } :: a.defers } W) :
    (Code.rangeFunc gop ps assign body).wpIn F n P Q a w := by
  refine wpIn_rangeFunc fun fn hfn => ?_
  rw [hro]
  let rec0 (st : LoopState) (pe : Option Code) : Loop := { state := st, pending := pe, fn, tmps := a.tmps, params := ps, assign, body, defers := w.heap.size }
  have hsz1 : (w.alloc (.deferred (some []))).heap.size = w.heap.size + 1 := by simp
  have hkept : Kept w.heap.size (rec0 .ready none) ((w.alloc (.deferred (some []))).alloc (.loop (rec0 .ready none))) := by
    refine ⟨?_, (Below.heap_alloc _ _ _ (by simp)).trans (World.alloc_heap_new w _)⟩
    have := World.alloc_heap_new (w.alloc (.deferred (some []))) (.loop (rec0 .ready none))
    rwa [hsz1] at this
  have hI1 : I [] ((w.alloc (.deferred (some []))).alloc (.loop (rec0 .ready none))) :=
    hI _ _ _ _ (hI _ _ _ _ h0 (World.grownBy_alloc w _ (some w.heap.size)) (.inl rfl)) (World.grownBy_alloc _ _ (some w.heap.size)) (.inl rfl)
  have hb1 : Below w.heap.size w ((w.alloc (.deferred (some []))).alloc (.loop (rec0 .ready none))) := ((Below.refl _ w).alloc (Nat.le_refl _) _).alloc (by simp) _
  generalize hW1 : (w.alloc (.deferred (some []))).alloc (.loop (rec0 .ready none)) = W1 at hkept hI1 hb1
  refine ⟨w.heap.size + 1, [{ target := .collected w.heap.size, args := #[] }], W1, { target := .fn (.func gf) lb, args := #[.func (.yield (w.heap.size + 1)) #[] #[]] }, W1, gf,
    #[.func (.yield (w.heap.size + 1)) #[] #[]] ++ lb, W1, ?_, ?_, ?_, ?_, fun _ => h1, ?_⟩
  · rw [← hW1]; exact run_enterLoop_outer _ _ _ _ _
  · simp only [resolve, hv]
    simp [go_sem]
  · intro f hf; simp [Target.leads] at hf; exact hf ▸ hF
  · simp [invoke, go_sem, en]
  have hround : ∀ (pre : List α) (x : α) (X : World), Gd (pre ++ [x]) → (I pre X ∧ Kept w.heap.size (rec0 .ready none) X) →
      YieldAt F (n - 1 - 1) P (w.heap.size + 1) (encs x) X fun e Y =>
        (e = .returned (.bool true) ∧ (I (pre ++ [x]) Y ∧ Kept w.heap.size (rec0 .ready none) Y) ∧ Kb K X Y) ∨
        (e = .returned (.bool false) ∧ (Ix (pre ++ [x]) Y ∧ Kept w.heap.size (rec0 .done (some .ret)) Y)) := by
    rintro pre x X hgd ⟨hi, hk⟩
    refine ⟨fn, _, assign, body, run_yield (P := P) (args := encs x) hk.1 (hps x), roundIn_of_wpIn hfn (hassign _ x X _ ⟨_, run_beginRound hk.1 rfl, ?_⟩)⟩
    have hnK : ¬ K (w.heap.size + 1) := fun h => by have := hnw _ h; omega
    have hbz : Kb K X (X.putObj (w.heap.size + 1) (.loop { rec0 .ready none with state := .busy })) := Kb.putObj _ hnK
    have hkz := hk.put (rec0 .busy none)
    refine wpIn_mono (hbody _ pre x _ hgd (by have := lt_of_heap hk.1; simp; omega) (hI _ _ _ _ hi (grownBy_putObj' X (w.heap.size + 1) _) (.inr (.inl rfl)))) ?_
    rintro e a3 Z hp
    cases e with
    | normal =>
      obtain ⟨hkp, hbl, hi3⟩ := hp
      have hkZ := hkz.keeps hkp
      exact ⟨_, _, run_endRound (P := P) none hkZ.1, .inl ⟨rfl, ⟨hI _ _ _ _ hi3 (grownBy_putObj' Z (w.heap.size + 1) _) (.inr (.inl rfl)), hkZ.put _⟩, (hbz.trans hbl).trans (Kb.putObj _ hnK)⟩⟩
    | ret =>
      obtain ⟨hkp, hi3⟩ := hp
      have hkZ := hkz.keeps hkp
      exact ⟨_, _, run_endRound (P := P) (some .ret) hkZ.1, .inr ⟨rfl, hIx _ _ _ _ hi3 (grownBy_putObj' Z (w.heap.size + 1) _) (.inr rfl), hkZ.put _⟩⟩
    | exit _ => exact hp.elim
    | goto _ => exact hp.elim
    | panic _ => exact hp.elim
    | outgrown => exact hp.elim
  refine (hseq (w.heap.size + 1) (fun pre X => I pre X ∧ Kept w.heap.size (rec0 .ready none) X) (fun pre X => Ix pre X ∧ Kept w.heap.size (rec0 .done (some .ret)) X) W1 hb1
    (fun s X Y h hg => ⟨hI _ _ _ _ h.1 hg (.inr (.inr rfl)), h.2.grown hg (hnw _ hgn)⟩) hround ⟨hI1, hkept⟩).mono ?_
  rintro e Y ⟨⟨v, rfl⟩, (⟨xs, hs, hi, hk⟩ | ⟨pre, hs, hi, hk⟩)⟩
  · exact ⟨none, _, run_endLoop (P := P) hk.1 (by simp [rec0]), hdone _ xs _ rfl (hS _ _ _ _ hs (grownBy_putObj' Y (w.heap.size + 1) _) (.inr rfl)) (hI _ _ _ _ hi (grownBy_putObj' Y (w.heap.size + 1) _) (.inr (.inl rfl))) (hk.put { rec0 .ready none with state := .exhausted }).2⟩
  · exact ⟨some .ret, _, run_endLoop (P := P) hk.1 (by simp [rec0]), hstop _ pre _ rfl hs (hIx _ _ _ _ hi (grownBy_putObj' Y (w.heap.size + 1) _) (.inr rfl)) (hk.put { rec0 .done (some .ret) with state := .exhausted }).2⟩
open Go.RowKit Go.Shelf
attribute [local go_sem] Oper.semAt_some
def pptr (g k : Nat) : Value := .pointer (some ⟨g, 3 * k, none⟩)
def fst (k : Nat) : List Nat := upto (fun j => j) k
theorem fst_length (k : Nat) : (fst k).length = k := by unfold fst; exact upto_length _ _
def Pre4 (s : List (Idx 4)) : Prop := s.map (·.1) = fst s.length
theorem pre4_of {s : List (Idx 4)} {k : Nat} (h : s.map (·.1) = fst k) : Pre4 s := by
  have e := congrArg List.length h
  rw [List.length_map, fst_length] at e
  unfold Pre4
  rw [e]
  exact h
theorem Pre4.front {s : List (Idx 4)} {x : Idx 4} (h : Pre4 (s ++ [x])) : x.1 = s.length ∧ Pre4 s := by
  unfold Pre4 at h
  rw [List.length_append, List.length_singleton, List.map_append, show fst (s.length + 1) = fst s.length ++ [s.length] by unfold fst; rw [upto_succ]] at h
  have e := List.append_inj h (by rw [List.length_map, fst_length])
  exact ⟨by simpa using e.2, e.1⟩
set_option maxRecDepth 100000 in
set_option maxHeartbeats 4000000 in
theorem parts1_in (n : Nat) (hn : 1 ≤ n) (l Bs g : Nat) (R : World → World → Prop) (J Jx : List (Idx 4) → World → Prop)
    (hdr : ∀ W W' m, R W W' → R W (W'.drewN m)) (htr : ∀ W W' W'', R W W' → R W' W'' → R W W'')
    (hJd : ∀ pre W m, J pre W → J pre (W.drewN m))
    (hY : ∀ pre x W, J pre W → Pre4 (pre ++ [x]) → YieldAt Fence.wide (n - 1) Tryz.prog l #[pptr g x.1] W fun e W' =>
      (e = .returned (.bool true) ∧ J (pre ++ [x]) W' ∧ R W W') ∨ (e = .returned (.bool false) ∧ Jx (pre ++ [x]) W'))
    (W : World) (hR0 : R W W) (hBs : W.cell? ⟨Bs, 0, none⟩ = some (.pointer (some ⟨g, 0, none⟩))) (h0 : J [] W) :
    CallsIn Fence.wide n Tryz.prog 105 #[.func (.yield l) #[] #[], .pointer (some ⟨Bs, 0, none⟩)] W fun e W' => (∃ v, e = .returned v) ∧
      ((∃ ys : List (Idx 4), ys.map (·.1) = fst 4 ∧ J ys W') ∨ (∃ pre : List (Idx 4), (∃ k, k ≤ 4 ∧ pre.map (·.1) = fst k) ∧ Jx pre W')) := by
  have i0 : ∀ w : World, (Instr.index 151 (.agg #[.pointer (some ⟨g, 0, none⟩), .pointer (some ⟨g, 3, none⟩), .pointer (some ⟨g, 6, none⟩), .pointer (some ⟨g, 9, none⟩)]) (.int .i64 0)).run Tryz.prog w = .ok (.pointer (some ⟨g, 0, none⟩)) w := fun _ => by kernel_rfl
  have i1 : ∀ w : World, (Instr.index 151 (.agg #[.pointer (some ⟨g, 0, none⟩), .pointer (some ⟨g, 3, none⟩), .pointer (some ⟨g, 6, none⟩), .pointer (some ⟨g, 9, none⟩)]) (.int .i64 1)).run Tryz.prog w = .ok (.pointer (some ⟨g, 3, none⟩)) w := fun _ => by kernel_rfl
  have i2 : ∀ w : World, (Instr.index 151 (.agg #[.pointer (some ⟨g, 0, none⟩), .pointer (some ⟨g, 3, none⟩), .pointer (some ⟨g, 6, none⟩), .pointer (some ⟨g, 9, none⟩)]) (.int .i64 2)).run Tryz.prog w = .ok (.pointer (some ⟨g, 6, none⟩)) w := fun _ => by kernel_rfl
  have i3 : ∀ w : World, (Instr.index 151 (.agg #[.pointer (some ⟨g, 0, none⟩), .pointer (some ⟨g, 3, none⟩), .pointer (some ⟨g, 6, none⟩), .pointer (some ⟨g, 9, none⟩)]) (.int .i64 3)).run Tryz.prog w = .ok (.pointer (some ⟨g, 9, none⟩)) w := fun _ => by kernel_rfl
  refine callsIn_of_wp Tryz.func105 rfl trivial ?_ rfl
  simp only [Tryz.ntmps105, List.size_toArray, List.length_cons, List.length_nil, Nat.reduceAdd, Nat.reduceSub, Array.replicate_succ, Array.replicate_zero, List.push_toArray, List.append_toArray, List.nil_append, List.cons_append]
  gi_wp2
  gi_quiet (fail)
  gi_wp2
  gi_loopw [18] (fun i wr => ∃ (k : Nat) (pre : List (Idx 4)), k ≤ 4 ∧ i = .int .i64 (k : Int) ∧ pre.map (·.1) = fst k ∧ J pre wr ∧ R W wr)
    (fun i _ => 4 - (intOf i).toNat)
  case atStart => exact ⟨0, [], by omega, rfl, rfl, hJd _ _ _ h0, hdr _ _ _ hR0⟩
  case round =>
    obtain ⟨k, pre, hk, rfl, hpre, hJs, hRr⟩ := hrel
    by_cases hk4 : k < 4
    · have hk1 : k + 1 ≤ 4 := by omega
      have hb : (pre ++ [(⟨k, hk4⟩ : Idx 4)]).map (·.1) = fst (k + 1) := by
        unfold fst at hpre ⊢
        rw [List.map_append, hpre, upto_succ]
        rfl
      obtain ⟨fn, tmps, assign, body, hy, hR⟩ := hY pre ⟨k, hk4⟩ wr hJs (pre4_of hb)
      dsimp only at hy
      unfold pptr at hy
      have hc : k = 0 ∨ k = 1 ∨ k = 2 ∨ k = 3 := by omega
      rcases hc with rfl | rfl | rfl | rfl
      all_goals
        simp only [Nat.mul_zero, Nat.mul_one, Nat.reduceMul] at hy
        gi_wp2
        refine hR.mono ?_
        rintro e W3 (⟨rfl, hJ3, hR3⟩ | ⟨rfl, hJx3⟩)
        · gi_wp2
          go_roundw
          case rel => exact ⟨_, _, hk1, rfl, hb, hJ3, htr _ _ _ hRr hR3⟩
          case measure => simp [intOf]
        · gi_wp2
          refine bodyPost_ret (results_none rfl _ _ _) rfl ?_
          exact ⟨⟨_, rfl⟩, .inr ⟨_, ⟨_, hk1, hb⟩, hJx3⟩⟩
    · obtain rfl : k = 4 := by omega
      gi_wp2
      go_end0
      exact ⟨⟨_, rfl⟩, .inl ⟨_, hpre, hJs⟩⟩
theorem grownBy_drewN (W : World) (m : Nat) (r : Option Nat) : W.grownBy (W.drewN m) r := ⟨rfl, rfl, rfl, Nat.le_refl _, fun _ _ _ => rfl⟩
theorem parts_comes (n : Nat) (hn : 1 ≤ n) {Bs g : Nat} {K : Nat → Prop} {w : World} (hBs : w.cell? ⟨Bs, 0, none⟩ = some (.pointer (some ⟨g, 0, none⟩))) (hlt : Bs < w.heap.size) :
    Comes Fence.wide n Tryz.prog 105 #[.pointer (some ⟨Bs, 0, none⟩)] (fun x : Idx 4 => #[pptr g x.1]) K Bs (fun ys _ => ys.map (·.1) = fst 4) (fun pre => ∃ k, k ≤ 4 ∧ pre.map (·.1) = fst k) w := by
  intro l J Jx W hW hJg hY h0
  refine parts1_in n hn l Bs g (Kb K) J Jx (fun W W' m h => ⟨h.size, h.block⟩) (fun _ _ _ h k => h.trans k) (fun pre W m h => hJg _ _ _ h (grownBy_drewN W m _)) (fun pre x W h _ => hY pre x W h) W (Kb.refl K W) ((hW.cell (p := ⟨Bs, 0, none⟩) hlt).trans hBs) h0
theorem parts_comesG (n : Nat) (hn : 1 ≤ n) {Bs g : Nat} {K : Nat → Prop} {w : World} (hBs : w.cell? ⟨Bs, 0, none⟩ = some (.pointer (some ⟨g, 0, none⟩))) (hlt : Bs < w.heap.size) :
    ComesG Fence.wide n Tryz.prog 105 #[.pointer (some ⟨Bs, 0, none⟩)] (fun x : Idx 4 => #[pptr g x.1]) K Bs Pre4 (fun ys _ => ys.map (·.1) = fst 4) (fun pre => ∃ k, k ≤ 4 ∧ pre.map (·.1) = fst k) w := by
  intro l J Jx W hW hJg hY h0
  refine parts1_in n hn l Bs g (Kb K) J Jx (fun W W' m h => ⟨h.size, h.block⟩) (fun _ _ _ h k => h.trans k) (fun pre W m h => hJg _ _ _ h (grownBy_drewN W m _)) (fun pre x W h hg => hY pre x W hg h) W (Kb.refl K W) ((hW.cell (p := ⟨Bs, 0, none⟩) hlt).trans hBs) h0
set_option maxHeartbeats 1000000 in
theorem parts_any (n : Nat) (g : Nat) (w : World) :
    CallsIn Fence.wide n Tryz.prog 72 #[.pointer (some ⟨g, 0, none⟩)] w fun e w' => e = .returned (.func (.func 105) #[] #[.pointer (some ⟨w.heap.size, 0, none⟩)]) ∧ w' = w.alloc (.cells #[.pointer (some ⟨g, 0, none⟩)] 114) := by
  refine callsIn_of_wp Tryz.func72 rfl trivial ?_ rfl
  simp only [Tryz.ntmps72, List.size_toArray, List.length_cons, List.length_nil, Nat.reduceAdd, Nat.reduceSub, Array.replicate_succ, Array.replicate_zero, List.push_toArray, List.append_toArray, List.nil_append, List.cons_append]
  gi_wp2
  go_ret
  exact ⟨rfl, rfl⟩
open Go.RowKit
theorem and_one_u32 (x : Nat) (hx : x < 4294967296) : bits BinOp.and IntKind.u32 (x : Int) 1 = ((x % 2 : Nat) : Int) := by
  have h := bit_u32 x 0 hx
  simpa using h
set_option maxHeartbeats 400000 in
theorem lowest_nil (A : Option Addr) (c : Nat) (w : World) :
    Calls Tryz.prog 111 #[.slice A 0 c] w fun e w' => e = .returned (.int .u32 0) ∧ w = w' := by
  go_enter Tryz.func111, Tryz.ntmps111
  go_wp2
  go_ret
  exact ⟨rfl, rfl⟩
set_option maxHeartbeats 400000 in
theorem lowest_pos (b off n c x : Nat) (w : World) (h0 : 0 < n) (_hc : n ≤ c) (_hm : n ≤ 140737488355328) (hl : x < 4294967296) (hx : w.cell? ⟨b, off, none⟩ = some (.int .u32 (x : Int))) :
    Calls Tryz.prog 111 #[.slice (some ⟨b, off, none⟩) n c] w fun e w' => e = .returned (.int .u32 ((x % 2 : Nat) : Int)) ∧ w = w' := by
  have hn : ((n : Int) == 0) = false := by simp; omega
  have e := and_one_u32 x hl
  go_enter Tryz.func111, Tryz.ntmps111
  go_wp2
  go_ret
  exact ⟨rfl, rfl⟩
theorem lowest_any {B : Nat} {A : Option Addr} {n c : Nat} {f : Nat → Nat} {w : World} (h : Rd w B A n c f) :
    Calls Tryz.prog 111 #[.slice A n c] w fun e w' => e = .returned (.int .u32 ((f 0 % 2 : Nat) : Int)) ∧ w = w' := by
  rcases Nat.eq_zero_or_pos n with h0 | h0
  · subst h0
    rw [h.out 0 (Nat.le_refl _)]
    exact lowest_nil A c w
  · obtain ⟨b, off, rfl, _, hc⟩ := h.at_ h0
    have := hc 0 h0
    exact lowest_pos b off n c _ w h0 h.cap h.max (h.lt 0) this
def DMay (s : Bool) (n : Nat) (f : Nat → Nat) (x : Int) : Prop := Fit n f ∧ 0 ≤ x ∧ x ≤ 1024 ∧ (n = 0 → s = false) ∧ (0 < x → f 0 % 2 = 1)
instance (s : Bool) (n : Nat) (f : Nat → Nat) (x : Int) : Decidable (DMay s n f x) := by unfold DMay; infer_instance
def dchk (s : Bool) (n : Nat) (f : Nat → Nat) (x : Int) : Int := if DMay s n f x then 0 else 8
set_option maxHeartbeats 800000 in
theorem dcheck_any {A : Option Addr} {n c : Nat} {f : Nat → Nat} {w : World} (h : Rd w w.heap.size A n c f) (s : Bool) (x : Int) :
    Calls Tryz.prog 89 #[.agg #[.bool s, .slice A n c, .int .i64 x]] w fun e w' => e = .returned (.int .i64 (dchk s n f x)) ∧ Below w.heap.size w w' := by
  have bel : Below w.heap.size w (w.alloc (.cells #[.bool s, .slice A n c, .int .i64 x] 24)) := (Below.refl _ w).alloc (Nat.le_refl _) _
  have Cc := hid (check_any (h.below bel))
  have Cl := hid (lowest_any (h.below bel))
  have Hb := hid bel
  clear bel
  by_cases hf : Fit n f
  · rw [chk_fit hf] at Cc
    have hm := h.max
    by_cases hx0 : x < 0
    · have hd : dchk s n f x = 8 := if_neg (fun h => by have := h.2.1; omega)
      rw [hd]
      clear hd hf h Cl
      go_enter Tryz.func89, Tryz.ntmps89
      go_wp2_with fail
      refine Cc.out.mono ?_
      rintro e w' ⟨rfl, rfl⟩
      go_wp2
      go_ret
      exact ⟨rfl, Hb.out⟩
    · by_cases hx1 : 1024 < x
      · have hd : dchk s n f x = 8 := if_neg (fun h => by have := h.2.2.1; omega)
        rw [hd]
        clear hd hf h Cl
        go_enter Tryz.func89, Tryz.ntmps89
        go_wp2_with fail
        refine Cc.out.mono ?_
        rintro e w' ⟨rfl, rfl⟩
        go_wp2
        go_ret
        exact ⟨rfl, Hb.out⟩
      · have he := @id (n = 0 ∧ s = true ∨ (n = 0 → s = false)) (by cases s <;> simp; omega)
        rcases he with ⟨rfl, rfl⟩ | hs
        · have hd : dchk true 0 f x = 8 := if_neg (fun h => by have := h.2.2.2.1 rfl; cases this)
          rw [hd]
          clear hd hf h Cl
          go_enter Tryz.func89, Tryz.ntmps89
          go_wp2_with fail
          refine Cc.out.mono ?_
          rintro e w' ⟨rfl, rfl⟩
          go_wp2
          go_ret
          exact ⟨rfl, Hb.out⟩
        · by_cases hx2 : 0 < x
          · by_cases hp : f 0 % 2 = 1
            · have hd : dchk s n f x = 0 := if_pos ⟨hf, by omega, by omega, hs, fun _ => hp⟩
              rw [hd]
              rw [hp] at Cl
              have hn0 : n ≠ 0 := by
                rintro rfl
                rw [h.out 0 (Nat.le_refl _)] at hp
                cases hp
              have hn1 : ((n : Int) == 0) = false := by simp; omega
              clear hd hf h hs hp
              go_enter Tryz.func89, Tryz.ntmps89
              go_wp2_with fail
              refine Cc.out.mono ?_
              rintro e w' ⟨rfl, rfl⟩
              go_wp2_with fail
              refine Cl.out.mono ?_
              rintro e w' ⟨rfl, rfl⟩
              go_wp2
              go_ret
              exact ⟨rfl, Hb.out⟩
            · have hd : dchk s n f x = 8 := if_neg (fun h => hp (h.2.2.2.2 hx2))
              rw [hd]
              have hp0 : f 0 % 2 = 0 := by omega
              rw [hp0] at Cl
              have he2 := @id (n = 0 ∧ s = false ∨ ((n : Int) == 0) = false) (by
                rcases Nat.eq_zero_or_pos n with h0 | h0
                · exact .inl ⟨h0, hs h0⟩
                · right; simp; omega)
              clear hd hf h hs hp hp0
              rcases he2 with ⟨rfl, rfl⟩ | hn1
              all_goals
                go_enter Tryz.func89, Tryz.ntmps89
                go_wp2_with fail
                refine Cc.out.mono ?_
                rintro e w' ⟨rfl, rfl⟩
                go_wp2_with fail
                refine Cl.out.mono ?_
                rintro e w' ⟨rfl, rfl⟩
                go_wp2
                go_ret
                exact ⟨rfl, Hb.out⟩
          · have hd : dchk s n f x = 0 := if_pos ⟨hf, by omega, by omega, hs, fun h => absurd h hx2⟩
            rw [hd]
            have he2 := @id (n = 0 ∧ s = false ∨ ((n : Int) == 0) = false) (by
              rcases Nat.eq_zero_or_pos n with h0 | h0
              · exact .inl ⟨h0, hs h0⟩
              · right; simp; omega)
            clear hd hf h hs Cl
            rcases he2 with ⟨rfl, rfl⟩ | hn1
            all_goals
              go_enter Tryz.func89, Tryz.ntmps89
              go_wp2_with fail
              refine Cc.out.mono ?_
              rintro e w' ⟨rfl, rfl⟩
              go_wp2
              go_ret
              exact ⟨rfl, Hb.out⟩
  · rw [chk_bad hf] at Cc
    have hd : dchk s n f x = 8 := if_neg (fun h => hf h.1)
    rw [hd]
    clear hd hf h
    go_enter Tryz.func89, Tryz.ntmps89
    go_wp2_with fail
    refine Cc.out.mono ?_
    rintro e w' ⟨rfl, rfl⟩
    go_wp2
    go_ret
    exact ⟨rfl, Hb.out⟩
open Go.RowKit
end Go.Proofs.YtbankbehfjogpaaGreat
