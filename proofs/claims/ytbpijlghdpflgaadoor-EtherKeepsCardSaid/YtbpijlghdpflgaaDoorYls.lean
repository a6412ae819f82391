/- Ether: the laws' own helper spoil. -/
import Derived.Test.YtbpijlghdpflgaaDoorYsp
namespace Go.Proofs.YtbpijlghdpflgaaDoor.Eth
open Go.RowKit Go.Shelf Go.Lib

/-- Blocks that are not of S stay. -/
structure KeepS (S : Nat → Prop) (w w' : World) : Prop where
  os : w'.os = w.os
  tape : w'.tape = w.tape
  output : w'.output = w.output
  size : w.heap.size ≤ w'.heap.size
  block : ∀ k, k < w.heap.size → ¬ S k → w'.heap[k]? = w.heap[k]?
theorem KeepS.refl (S : Nat → Prop) (w : World) : KeepS S w w := ⟨rfl, rfl, rfl, Nat.le_refl _, fun _ _ _ => rfl⟩
theorem KeepS.below {B : Nat} {w w' : World} (h : KeepS (fun q => B ≤ q) w w') (hB : B ≤ w.heap.size) : Below B w w' := ⟨h.os, h.tape, h.output, h.size, fun k hk => h.block k (by omega) (by omega)⟩
theorem KeepS.mono {S T : Nat → Prop} {w w' : World} (h : KeepS S w w') (k : ∀ q, S q → T q) : KeepS T w w' := ⟨h.os, h.tape, h.output, h.size, fun q hq hn => h.block q hq (fun hs => hn (k q hs))⟩
theorem KeepS.gq {S : Nat → Prop} {g : Nat} {w X Y : World} (h : KeepS S w X) (q : Gq g X Y) (hg : S g) : KeepS S w Y :=
  ⟨q.os.trans h.os, q.tape.trans h.tape, q.output.trans h.output, Nat.le_trans h.size (Nat.le_of_eq q.size), fun k hk hn => (q.block k (fun e => hn (e ▸ hg))).trans (h.block k hk hn)⟩
theorem gq_set (w : World) (g j : Nat) (u : Value) : Gq g w (w.setCell ⟨g, j, none⟩ u) := ⟨rfl, rfl, rfl, by simp [World.setCell], fun b hb => Below.heap_setCell _ ⟨g, j, none⟩ _ b hb⟩
/-- What spoil keeps while it goes. -/
structure SpI (w : World) (S : Nat → Prop) (g off n : Nat) (rs : List Cr) (X : World) : Prop where
  row : ∃ cur, X.heap[g]? = some (.cells cur 28 (0, 0)) ∧ off + n * 4 ≤ cur.size ∧ ∀ (j : Nat) (r : Cr), rs[j]? = some r → cur[off + j * 4 + 2]? = some (.slice r.2.2.1.1 r.2.2.1.2.1 r.2.2.1.2.2)
  txt : ∀ r ∈ rs, Tow X S r
  keep : KeepS S w X
theorem SpI.num {w X : World} {S : Nat → Prop} {g off n i : Nat} {rs : List Cr} (h : SpI w S g off n rs X) (hS : S g) (u : Value) : SpI w S g off n rs (X.setCell ⟨g, off + i * 4, none⟩ u) := by
  obtain ⟨⟨cur, h1, h2, h3⟩, h4, h5⟩ := h
  have q := gq_set X g (off + i * 4) u
  refine ⟨⟨_, heap_setCell_same X g (off + i * 4) cur _ u h1, by simpa using h2, fun j r hr => ?_⟩, fun r hr => (h4 r hr).kept (Keep8.gq q h1), h5.gq q hS⟩
  rw [Array.getElem?_setIfInBounds, if_neg (by omega)]
  exact h3 j r hr
theorem SpI.byte {w X : World} {S : Nat → Prop} {g off n tb j : Nat} {rs : List Cr} {cur : Array Value} (h : SpI w S g off n rs X) (hS : S tb) (hb : X.heap[tb]? = some (.cells cur 5 (0, 0))) (u : Value) : SpI w S g off n rs (X.setCell ⟨tb, j, none⟩ u) := by
  obtain ⟨⟨cr, h1, h2, h3⟩, h4, h5⟩ := h
  have q := gq_set X tb j u
  have hne : g ≠ tb := fun e => by
    subst e
    rw [h1] at hb
    injection hb with hb
    injection hb with _ ht _
    exact absurd ht (by decide)
  refine ⟨⟨cr, (q.block g hne).trans h1, h2, h3⟩, fun r hr h0 => ?_, h5.gq q hS⟩
  obtain ⟨t2, o2, c2, e, hs2, hh2, hc2⟩ := h4 r hr h0
  by_cases htt : t2 = tb
  · subst htt
    rw [hb] at hh2
    injection hh2 with hh2
    injection hh2 with e1 _ _
    subst e1
    exact ⟨t2, o2, _, e, hs2, heap_setCell_same X t2 j cur _ u hb, by simpa using hc2⟩
  · exact ⟨t2, o2, c2, e, hs2, (q.block t2 htt).trans hh2, hc2⟩

set_option maxHeartbeats 6400000 in
set_option maxRecDepth 100000 in
theorem spoil_any {w : World} {S : Nat → Prop} {A : Option Addr} {n c : Nat} {rs : List Cr} {l : List Cp} (h : Cow w S A n c rs l) (hn : n ≤ 1000) :
    Calls Tryd.prog 17 #[.slice A n c] w fun e w' => e = .returned (.tuple #[]) ∧ Hid (KeepS S w w') := by
  rcases Nat.eq_zero_or_pos n with h0 | h0
  · subst h0
    go_enter Tryd.func17, Tryd.ntmps17
    go_wp2
    go_loopg [2] 0 (fun gg s2 wr => s2 = .int .i64 0 ∧ wr = w)
    case atStart => exact ⟨rfl, rfl⟩
    case round =>
      obtain ⟨rfl, rfl⟩ := hrel
      go_wp2
      go_end0
      exact ⟨rfl, hid (KeepS.refl S _)⟩
  obtain ⟨h1, h2, h3, h4⟩ := h
  have hlen := h1.len
  rw [cellsC_length] at hlen
  have hrn := hid (show rs.length = n by omega)
  have hcap := h1.cap
  obtain ⟨g, off, cur, rfl, hS, hh, hsz⟩ := h4 h0
  have I0 : Hid (SpI w S g off n rs w) := hid ⟨⟨cur, hh, hsz, fun j r hr => by
    have hc := h1.cells _ _ (cellsC_get hr 2 _ rfl)
    rw [Addr.add_lit, ← Nat.add_assoc, cell_of_row w g _ cur _ (0, 0) hh] at hc
    exact hc⟩, h3, KeepS.refl S w⟩
  have HTL := hid (fun (j : Nat) (r : Cr) (hr : rs[j]? = some r) => show r.2.2.1.2.1 ≤ 140737488355328 from by
    obtain ⟨p, hp⟩ : ∃ p, l[j]? = some p := ⟨_, List.getElem?_eq_getElem (by rw [← h2.1]; exact (List.getElem?_eq_some_iff.1 hr).1)⟩
    exact (h2.2 j r p hr hp).txt.max)
  have HTC := hid (fun (j : Nat) (r : Cr) (hr : rs[j]? = some r) => show r.2.2.1.2.1 ≤ r.2.2.1.2.2 from by
    obtain ⟨p, hp⟩ : ∃ p, l[j]? = some p := ⟨_, List.getElem?_eq_getElem (by rw [← h2.1]; exact (List.getElem?_eq_some_iff.1 hr).1)⟩
    exact (h2.2 j r p hr hp).txt.cap)
  have HS := hid hS
  clear h1 h2 h3 h4 hh hsz hlen hS
  go_enter Tryd.func17, Tryd.ntmps17
  go_wp2
  go_loopg [2] n (fun gg s2 wr => ∃ kk : Nat, kk ≤ n ∧ n - kk ≤ gg ∧ s2 = .int .i64 kk ∧ Hid (SpI w S g off n rs wr))
  case atStart => exact ⟨0, Nat.zero_le _, by omega, rfl, I0⟩
  case round =>
    obtain ⟨kk, hkk, hg, rfl, HI⟩ := hrel
    by_cases hlt : kk < n
    · have hltz : (kk : Int) < (n : Int) := by omega
      obtain ⟨r, hr⟩ : ∃ r, rs[kk]? = some r := ⟨_, List.getElem?_eq_getElem (by rw [hrn.out]; exact hlt)⟩
      have hmx := HTL.out kk r hr
      have hcp := HTC.out kk r hr
      obtain ⟨x, y, ⟨D, m, d⟩, s⟩ := r
      change m ≤ 140737488355328 at hmx
      change m ≤ d at hcp
      have HR := hid hr
      have HI2 := hid (HI.out.num (i := kk) HS.out (.int .i64 (-7)))
      obtain ⟨cur2, q1, q2, q3⟩ := HI.out.row
      obtain ⟨u0, hu0⟩ : ∃ u0, cur2[off + kk * 4]? = some u0 := ⟨_, Array.getElem?_eq_getElem (by omega)⟩
      have k0 : wr.cell? ⟨g, off + kk * 4, none⟩ = some u0 := (cell_of_row wr g _ cur2 _ (0, 0) q1).trans hu0
      have f0 : wr.frozen? ⟨g, off + kk * 4, none⟩ = false := frozen_of_row wr g _ cur2 _ q1
      clear hr q1 q2 q3 hu0
      go_upto_block 0 with fail
      go_loopg [3] m (fun gg s3 wx => ∃ j : Nat, j ≤ m ∧ m - j ≤ gg ∧ s3 = .int .i64 j ∧ Hid (SpI w S g off n rs wx))
      case atStart => exact ⟨0, Nat.zero_le _, by omega, rfl, HI2⟩
      case round =>
        clear k0 f0 HI2
        obtain ⟨j, hj, hg2, rfl, HJ⟩ := hrel
        obtain ⟨cur2, q1, q2, q3⟩ := HJ.out.row
        have k2 : wr.cell? ⟨g, off + kk * 4 + 2, none⟩ = some (.slice D m d) := (cell_of_row wr g _ cur2 _ (0, 0) q1).trans (q3 kk _ HR.out)
        clear q1 q2 q3
        by_cases hlt2 : j < m
        · have hltz2 : (j : Int) < (m : Int) := by omega
          obtain ⟨tb, o, cb, hD, hsb, hhb, hcb⟩ := HJ.out.txt _ (List.mem_of_getElem? HR.out) (show 0 < m by omega)
          change D = some ⟨tb, o, none⟩ at hD
          change o + m ≤ cb.size at hcb
          subst hD
          obtain ⟨u1, hu1⟩ : ∃ u1, cb[o + j]? = some u1 := ⟨_, Array.getElem?_eq_getElem (by omega)⟩
          have k1 : wr.cell? ⟨tb, o + j, none⟩ = some u1 := (cell_of_row wr tb _ cb _ (0, 0) hhb).trans hu1
          have f1 : wr.frozen? ⟨tb, o + j, none⟩ = false := frozen_of_row wr tb _ cb _ hhb
          have HN := hid (HJ.out.byte (j := o + j) hsb hhb (.int .u8 7))
          clear hsb hhb hcb hu1
          go_wp2
          go_roundg (m - (j + 1))
          case measure => omega
          case rel => exact ⟨j + 1, by omega, by omega, by go_num, HN⟩
        · have hltz2 : ¬ (j : Int) < (m : Int) := by omega
          go_wp2
          go_roundg (n - (kk + 1))
          case measure => omega
          case rel => exact ⟨kk + 1, by omega, by omega, by go_num, HJ⟩
    · have hltz : ¬ (kk : Int) < (n : Int) := by omega
      obtain rfl : kk = n := by omega
      go_wp2
      go_end0
      exact ⟨rfl, hid HI.out.keep⟩
end Go.Proofs.YtbpijlghdpflgaaDoor.Eth
