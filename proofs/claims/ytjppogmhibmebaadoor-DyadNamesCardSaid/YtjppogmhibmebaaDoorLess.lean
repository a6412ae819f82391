/- Contract: putLess. -/
import Derived.Test.YtjppogmhibmebaaDoorMake
namespace Go.Proofs.YtjppogmhibmebaaDoor
open Go.RowKit

/-- What putLess leaves in the row. -/
def Less (w : World) (g n N : Nat) (z fa fb : Nat → Nat) (e : Ending) (w' : World) : Prop :=
  e = .returned (.tuple #[]) ∧ w.grownBy w' (some g) ∧ ∃ z' r, Blk w' 26 g N z' ∧ (∀ j, n ≤ j → z' j = z j) ∧ (∀ j, j < n → z' j < 4294967296) ∧ r ≤ 1 ∧ vl z' n + r * pw n + vl fb n = vl fa n + pw n

set_option maxHeartbeats 1600000 in
theorem putLess_any {B C : Nat} {A D : Option Addr} {n c m d : Nat} {f h : Nat → Nat} {w : World} (ha : Rd w B A n c f) (hb : Rd w C D m d h) (hB : B ≤ w.heap.size) (hC : C ≤ w.heap.size)
    {g k0 c0 N : Nat} {z : Nat → Nat} (hz : Blk w 26 g N z) (hk0 : k0 ≤ N) (hc0 : k0 ≤ c0) (hm0 : k0 ≤ 140737488355328)
    (hA : 0 < n → ∀ b off, A = some ⟨b, off, none⟩ → b ≠ g ∨ off = 0) (hD : 0 < m → ∀ b off, D = some ⟨b, off, none⟩ → b ≠ g) :
    Calls Tryd.prog 106 #[.slice (some ⟨g, 0, none⟩) k0 c0, .slice A n c, .slice D m d] w (Less w g k0 N z f h) := by
  have hgl := hz.lt
  have Ha := hid ha
  have Hb := hid hb
  have HA := hid hA
  have HD := hid hD
  have Hz := hid hz
  clear ha hb hA hD hz
  go_enter Tryd.func106, Tryd.ntmps106
  go_wp2_with fail
  refine (places_any _ _).mono ?_
  rintro e w' ⟨rfl, rfl⟩
  go_wp2_with fail
  go_loopw [11] (fun i wr => ∃ k : Nat, k ≤ k0 ∧ i = .int .i64 k ∧ ∃ (y : Nat → Nat) (r : Nat), Blk wr 26 g N y ∧ Box wr w.heap.size 58 (.int .u64 (r : Int)) ∧ w.grownBy wr (some g) ∧
      (∀ b o, b < w.heap.size → (b ≠ g ∨ k ≤ o) → wr.cell? ⟨b, o, none⟩ = w.cell? ⟨b, o, none⟩) ∧ (∀ j, k ≤ j → y j = z j) ∧ (∀ j, j < k → y j < 4294967296) ∧ r ≤ 1 ∧ vl y k + r * pw k + vl h k = vl f k + pw k) (fun i _ => k0 - (intOf i).toNat)
  case atStart =>
    exact ⟨0, by omega, rfl, z, 1, Hz.out.alloc _, Box.new' rfl, World.grownBy_alloc _ _ _, fun b o hb _ => World.cell?_alloc_lt _ _ _ (by exact hb), fun _ _ => rfl, fun j hj => by omega, by omega, rfl⟩
  case round =>
    obtain ⟨k, hk, rfl, y, r, hblk, hbox, hgr, hkeep, hyz, hy, hr, hsum⟩ := hrel
    by_cases hkN : k < k0
    · have pa : Calls Tryd.prog 103 #[.slice A n c, .int .i64 (k : Int)] wr fun e w' => e = .returned (.int .u32 (f k : Int)) ∧ wr = w' := by
        rcases Nat.lt_or_ge k n with hlt | hge
        · obtain ⟨b, off, rfl, hbB, hc⟩ := Ha.out.at_ (by omega)
          refine at_in b off n c k _ wr hlt Ha.out.cap Ha.out.max ((hkeep b (off + k) (by omega) ?_).trans (hc k hlt))
          rcases HA.out (by omega) b off rfl with h1 | h1
          · exact .inl h1
          · exact .inr (by omega)
        · rw [Ha.out.out k hge]
          exact at_out A n c k wr hge Ha.out.cap Ha.out.max
      have pd : Calls Tryd.prog 103 #[.slice D m d, .int .i64 (k : Int)] wr fun e w' => e = .returned (.int .u32 (h k : Int)) ∧ wr = w' := by
        rcases Nat.lt_or_ge k m with hlt | hge
        · obtain ⟨b, off, rfl, hbB, hc⟩ := Hb.out.at_ (by omega)
          exact at_in b off m d k _ wr hlt Hb.out.cap Hb.out.max ((hkeep b (off + k) (by omega) (.inl (HD.out (by omega) b off rfl))).trans (hc k hlt))
        · rw [Hb.out.out k hge]
          exact at_out D m d k wr hge Hb.out.cap Hb.out.max
      have Ca := hid pa
      have Cd := hid pd
      have fk := Ha.out.lt k
      have hk' := Hb.out.lt k
      have xc := hbox.cell
      have xf := hbox.frozen
      have xb := hblk.cell (j := k) (by omega)
      have xg := hblk.frozen k
      have Hsum := hid hsum
      have Hy := hid hy
      have Hyz := hid hyz
      have Hblk := hid hblk
      have Hbox := hid hbox
      have Hgr := hid hgr
      have Hkeep := hid hkeep
      clear pa pd hsum hy hyz hblk hbox hgr hkeep
      generalize hfa : f k = fa at *
      generalize hfb : h k = fb at *
      generalize y k = zk at *
      have Hfa := hid hfa
      have Hfb := hid hfb
      clear hfa hfb
      obtain ⟨nb, hnb⟩ : ∃ nb, nb = 4294967295 - fb := ⟨_, rfl⟩
      have hnl : nb ≤ 4294967295 := by omega
      have hxr : bits BinOp.xor IntKind.u32 IntKind.u32.max (fb : Int) = (nb : Int) := by rw [not_u32 fb hk']; omega
      have Hnb := hid hnb
      clear hnb
      have hsg : IntKind.u32.signed = false := rfl
      go_wp2_with fail
      refine Ca.out.mono ?_
      rintro e w' ⟨rfl, rfl⟩
      go_wp2_with fail
      refine Cd.out.mono ?_
      rintro e w' ⟨rfl, rfl⟩
      go_wp2_with fail
      refine (place_any _ r _ wr (by omega) (by omega) xc xf).mono ?_
      rintro e w' ⟨rfl, rfl⟩
      rw [show ((fa : Int) + (nb : Int)).toNat = fa + nb by omega]
      clear hxr
      generalize hq : (fa + nb + r) / 4294967296 = q
      generalize hm : (fa + nb + r) % 4294967296 = x
      have Hq := hid hq
      have Hx := hid hm
      clear hq hm
      go_wp2
      go_roundw
      case rel =>
        have hq := Hq.out
        have hx := Hx.out
        refine ⟨k + 1, by omega, by go_num, fun j => if j = k then x else y j, q, (Hblk.out.far (p := ⟨w.heap.size, 0, none⟩) (by show g ≠ w.heap.size; omega) _).set k x, (Hbox.out.set _).far (p := ⟨g, k, none⟩) (by show w.heap.size ≠ g; omega) _, ?_, ?_, ?_, ?_, by omega, ?_⟩
        · exact put_grown Hgr.out (Nat.le_refl _) _ k _
        · intro b o hb hbo
          rw [World.cell?_setCell_other _ _ _ _ (by intro e; injection e with e1 e2; subst e1 e2; rcases hbo with h1 | h1 <;> omega), World.cell?_setCell_other _ _ _ _ (by intro e; injection e with e1 e2; omega)]
          exact Hkeep.out b o hb (hbo.imp_right (by omega))
        · intro j hj
          show (if j = k then x else y j) = z j
          rw [if_neg (by omega)]
          exact Hyz.out j (by omega)
        · intro j hj
          show (if j = k then x else y j) < _
          split
          · omega
          · exact Hy.out j (by omega)
        · rw [vl_put, ← hq, ← hx, Hnb.out, ← Hfa.out, ← Hfb.out]
          exact less_step (by rw [Hfb.out]; omega) Hsum.out
      case measure => simp [intOf]; omega
    · obtain rfl : k = k0 := by omega
      have Hsum := hid hsum
      have Hy := hid hy
      have Hyz := hid hyz
      have Hblk := hid hblk
      have Hgr := hid hgr
      clear hsum hy hyz hblk hbox hgr hkeep
      go_wp2
      go_end0
      exact ⟨rfl, Hgr.out, y, r, Hblk.out, Hyz.out, Hy.out, hr, Hsum.out⟩

end Go.Proofs.YtjppogmhibmebaaDoor
