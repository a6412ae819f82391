/- Flight: acts on different Numbers go either way round. -/
/- What carries a walk over to a given statement: how a slice of uint32 that came in is read, and what the listed table gives. -/
/- How a dyad that came in is read. -/
import Derived.Test.YtejngjhdmneaiaaZab
import Derived.Test.YtejngjhdmneaiaaRows
import Derived.Test.YtejngjhdmneaiaaMem
import Derived.WalkKit
import Derived.ProofKit
import Derived.OpenShut
import Derived.ShutString
import Derived.ChangeOld
import Derived.Below
import Derived.SizedLaws
import Derived.Test.YtejngjhdmneaiaaVae
import Derived.Lib.SmallJoins

namespace Go.Proofs.Ytejngjhdmneaiaa.Fli
set_option maxRecDepth 100000
open Go.RowKit Go.Shelf Go.Lib

theorem szl_tL {l : List (Ld Pm)} (h : SzL l) (n : Int) (f : Nat) : SzL (tL l n f) := by
  unfold tL
  split
  · unfold turnL
    cases fnd n l with
    | none => exact h
    | some x =>
      show SzL (if f = 0 then (if x.2.2.1 = 16 then [] else cpy n (fun c => c + 1) l) else if f = 1 then (if 1 < x.2.2.1 then cpy n (fun c => c - 1) l else del n l) else del n l)
      split
      · split
        · exact szl0
        · exact h.cpy n _
      · split
        · split
          · exact h.cpy n _
          · exact h.del n
        · exact h.del n
  · exact szl0
theorem tE_zero {l : List (Ld Pm)} {n : Int} {f : Nat} (h : tE l n f = 0) : askE l n = 0 ∧ turnE l n f = 0 := by
  unfold tE at h
  by_cases h0 : askE l n = 0
  · rw [if_pos h0] at h
    exact ⟨h0, h⟩
  · rw [if_neg h0] at h
    exact absurd h h0
/-- Where no error is told, loads are behind the act. -/
theorem tL_acted {l : List (Ld Pm)} {n : Int} {f : Nat} (h : tE l n f = 0) : tL l n f = acted l n f := by
  obtain ⟨h0, h1⟩ := tE_zero h
  unfold tL
  rw [if_pos h]
  unfold turnL acted
  unfold turnE at h1
  cases hq : fnd n l with
  | none => rfl
  | some x =>
    rw [hq] at h1
    have hm := (askE_zero.1 h0).1.2.1 x (fnd_mem hq).1
    have hc := hm.2.2.1
    show (if f = 0 then (if x.2.2.1 = 16 then [] else cpy n (fun c => c + 1) l) else if f = 1 then (if 1 < x.2.2.1 then cpy n (fun c => c - 1) l else del n l) else del n l) = (if f = 0 then cpy n (fun c => c + 1) l else if f = 1 then (if x.2.2.1 = 1 then del n l else cpy n (fun c => c - 1) l) else del n l)
    by_cases f0 : f = 0
    · rw [if_pos f0, if_pos f0, if_neg]
      intro e
      have h1 : (if f = 0 then (if x.2.2.1 = 16 then (9 : Int) else 0) else 0) = 0 := h1
      rw [if_pos f0, if_pos e] at h1
      exact absurd h1 (by decide)
    · rw [if_neg f0, if_neg f0]
      by_cases f1 : f = 1
      · rw [if_pos f1, if_pos f1]
        by_cases c1 : x.2.2.1 = 1
        · rw [if_pos c1, if_neg (by omega)]
        · rw [if_neg c1, if_pos (by omega)]
      · rw [if_neg f1, if_neg f1]
set_option maxHeartbeats 6400000 in
theorem fapart_walk {w : World} {n c : Nat} {A : Option Addr} {l : List (Ld Pm)} {a b p q : Int} (h : Lls w w.heap.size A n c l) (_ha : -9223372036854775808 ≤ a ∧ a ≤ 9223372036854775807) (_hb : -9223372036854775808 ≤ b ∧ b ≤ 9223372036854775807) (hp : 0 ≤ p ∧ p ≤ 255) (hq : 0 ≤ q ∧ q ≤ 255) :
    Calls Try.prog 5 #[.slice A n c, .int .i64 a, .int .i64 b, .int .u8 p, .int .u8 q] w fun e w' => e = .returned (.bool true) ∧ Below w.heap.size w w' := by
  obtain ⟨s, rfl⟩ : ∃ s : Nat, p = (s : Int) := ⟨p.toNat, by omega⟩
  obtain ⟨t, rfl⟩ : ∃ t : Nat, q = (t : Int) := ⟨q.toNat, by omega⟩
  have H := hid h
  clear h hp hq
  go_enter Try.func5, Try.ntmps5
  go_wp2_with fail
  refine (alive_any _).mono ?_
  rintro e w1 ⟨rfl, H1⟩
  have K1 := hid (H.out.on (Nat.le_refl _) H1.out)
  go_wp2_with fail
  refine (great_any K1.out (Nat.le_refl _)).mono ?_
  rintro e w2 ⟨r, rfl, H2, H3⟩
  have B2 := hid (gbelow_on H1.out (Nat.le_refl _) H3.out)
  cases r
  case true =>
    go_wp2
    go_ret
    exact ⟨rfl, B2.out⟩
  have HZ := hid (H2.out rfl).1
  clear H2
  by_cases hab : a = b
  · go_wp2
    go_ret
    exact ⟨rfl, B2.out⟩
  have K2 := hid (K1.out.on (Nat.le_refl _) H3.out)
  have C1 := hid (done_any a s K2.out (Nat.le_refl _) HZ.out)
  go_wp2_with fail
  refine C1.out.mono ?_
  rintro e w3 ⟨v3, rs3, rfl, H4⟩
  obtain ⟨A3, c3, rfl, hx⟩ := H4.out.1.form
  have X3 := hid hx
  have B3 := hid (gbelow_on B2.out (Nat.le_refl _) H4.out.2)
  have K3 := hid (K2.out.on (Nat.le_refl _) H4.out.2)
  have C2 := hid (done_any b t X3.out (Nat.le_refl _) (szl_tL HZ.out a (wayA s)))
  clear H4 hx C1
  go_wp2_with fail
  refine C2.out.mono ?_
  rintro e w4 ⟨v4, rs4, rfl, H4⟩
  obtain ⟨A4, c4, rfl, hx⟩ := H4.out.1.form
  have X4 := hid hx
  have B4 := hid (gbelow_on B3.out (Nat.le_refl _) H4.out.2)
  have K4 := hid (K3.out.on (Nat.le_refl _) H4.out.2)
  have C3 := hid (done_any b t K4.out (Nat.le_refl _) HZ.out)
  clear H4 hx C2
  go_wp2_with fail
  refine C3.out.mono ?_
  rintro e w5 ⟨v5, rs5, rfl, H4⟩
  obtain ⟨A5, c5, rfl, hx⟩ := H4.out.1.form
  have X5 := hid hx
  have B5 := hid (gbelow_on B4.out (Nat.le_refl _) H4.out.2)
  have Y5 := hid (X4.out.on (Nat.le_refl _) H4.out.2)
  have C4 := hid (done_any a s X5.out (Nat.le_refl _) (szl_tL HZ.out b (wayA t)))
  clear H4 hx C3
  go_wp2_with fail
  refine C4.out.mono ?_
  rintro e w6 ⟨v6, rs6, rfl, H4⟩
  obtain ⟨A6, c6, rfl, hx⟩ := H4.out.1.form
  have X6 := hid hx
  have B6 := hid (gbelow_on B5.out (Nat.le_refl _) H4.out.2)
  have Y6 := hid (Y5.out.on (Nat.le_refl _) H4.out.2)
  clear H4 hx C4
  have HS := hid (psame_any Y6.out X6.out (Nat.le_refl _) (Nat.le_refl _))
  have E1 := hid (tL_acted (l := l) (n := a) (f := wayA s))
  have E2 := hid (tL_acted (l := tL l a (wayA s)) (n := b) (f := wayA t))
  have E3 := hid (tL_acted (l := l) (n := b) (f := wayA t))
  have E4 := hid (tL_acted (l := tL l b (wayA t)) (n := a) (f := wayA s))
  have HAP := hid (acted_apart hab l (wayA s) (wayA t))
  clear X3 X4 X5 X6 Y5 Y6 K1 K2 K3 K4
  generalize tL (tL l b (wayA t)) a (wayA s) = L4 at *
  generalize tL (tL l a (wayA s)) b (wayA t) = L2 at *
  generalize tE (tL l b (wayA t)) a (wayA s) = e4 at *
  generalize tE (tL l a (wayA s)) b (wayA t) = e2 at *
  generalize tL l b (wayA t) = L3 at *
  generalize tL l a (wayA s) = L1 at *
  generalize tE l b (wayA t) = e3 at *
  generalize tE l a (wayA s) = e1 at *
  by_cases h1 : e1 = 0
  case neg =>
    go_wp2
    go_ret
    exact ⟨rfl, B6.out⟩
  by_cases h2 : e2 = 0
  case neg =>
    subst h1
    go_wp2
    go_ret
    exact ⟨rfl, B6.out⟩
  by_cases h3 : e3 = 0
  case neg =>
    subst h1 h2
    go_wp2
    go_ret
    exact ⟨rfl, B6.out⟩
  by_cases h4 : e4 = 0
  case neg =>
    subst h1 h2 h3
    go_wp2
    go_ret
    exact ⟨rfl, B6.out⟩
  have HE := hid (show L2 = L4 by rw [E2.out h2, E4.out h4, E1.out h1, E3.out h3]; exact HAP.out)
  subst h1 h2 h3 h4
  clear E1 E2 E3 E4 HAP
  go_wp2_with fail
  refine HS.out.mono ?_
  rintro e w7 ⟨r, rfl, H5, H6⟩
  have B7 := hid (gbelow_on B6.out (Nat.le_refl _) H6.out)
  obtain rfl : r = true := H5.out.2 HE.out
  go_wp2
  go_ret
  exact ⟨rfl, B7.out⟩
end Go.Proofs.Ytejngjhdmneaiaa.Fli


namespace Go.Proofs.Ytejngjhdmneaiaa
open Go.ChangeShapes Go.WideShapes Go.ChangeAt Go.RowKit

theorem own : ownKnob Try.prog.godebug = none := by kernel_rfl
theorem laidOut : laidOutB Try.prog = true := by kernel_rfl
theorem bytes_u32 : Try.prog.bytesOf 75 = 4 := by kernel_rfl

theorem rd_of_ints {H : Type} {W : World} {x : Addr} {l c : Nat} {zs : List Int} (hl : l ≤ c) (hz : zs.length = c)
    (hr : ((lits (H := H) .u32 (zs.take l)).length + (lits (H := H) .u32 (zs.drop l)).length) * Try.prog.bytesOf 75 ≤ reachBytes)
    (hcell : ∀ i, i < zs.length → W.cell? (x.add i) = some (.int .u32 (zs.getD i 0))) (hwz : ∀ n ∈ zs, (Lit.int .u32 n).wf = true) :
    Rd W W.heap.size (some x) l c (fun j => if j < l then (zs.getD j 0).toNat else 0) := by
  have hc : c ≤ 140737488355328 := by
    rw [bytes_u32] at hr
    simp only [lits, List.length_map, List.length_take, List.length_drop, reachBytes] at hr
    omega
  have hb : ∀ j, j < c → 0 ≤ zs.getD j 0 ∧ zs.getD j 0 ≤ 4294967295 := fun j hj => by
    have hm : zs.getD j 0 ∈ zs := by
      rw [List.getD_eq_getElem?_getD, List.getElem?_eq_getElem (by omega), Option.getD_some]
      exact List.getElem_mem _
    have := hwz _ hm
    have hmin : IntKind.u32.min = 0 := rfl
    have hmax : IntKind.u32.max = 4294967295 := rfl
    simp only [Lit.wf, Bool.and_eq_true, decide_eq_true_eq] at this
    omega
  refine ⟨hl, by omega, fun j => ?_, fun j hj => if_neg (by omega), fun hn => ?_⟩
  · show (if j < l then (zs.getD j 0).toNat else 0) < _
    split
    · have := hb j (by omega)
      omega
    · omega
  · obtain ⟨b, off, rfl, hc2⟩ := ints_at hcell (by omega)
    refine ⟨b, off, rfl, block_lt_of_cell (hc2 0 (by omega)), fun j hj => ?_⟩
    rw [hc2 j (by omega)]
    show _ = some (Value.int .u32 ((if j < l then (zs.getD j 0).toNat else 0 : Nat) : Int))
    rw [if_pos hj, Int.toNat_of_nonneg (hb j (by omega)).1]

end Go.Proofs.Ytejngjhdmneaiaa


namespace Go.Proofs.Ytejngjhdmneaiaa
open Go.ChangeShapes Go.WideShapes Go.ChangeAt Go.RowKit Go.Joins

set_option maxRecDepth 100000 in
theorem dyad_in {H : Type} {enc : TypeId × Value → H} {W : World} {r : Reach} {b0 : Nat} {v : Value} {d : DataW H} {p : List MemPlace} (hval : Value.okWide Try.prog W r b0 25 v)
    (h : DataW.Trod enc Try.prog W 0 (fun _ => true) true 25 v d p) (hw : ∀ m ∈ d.weights Try.prog 25, m ≤ reachBytes) :
    ∃ s A n c f x, v = .agg #[.bool s, .slice A n c, .int .i64 x] ∧ Rd W W.heap.size A n c f ∧ (A = none → n = 0 ∧ c = 0) := by
  obtain ⟨v0, v1, v2, y0, y1, y2, m, rfl, rfl, rfl, h0, h1, h2⟩ := open_agg3 Try.underlying25 (by kernel_rfl) (by kernel_rfl) hval h
  obtain ⟨s, hs, _⟩ := DataW.trod_bool Try.underlying4 h0
  obtain ⟨x, hx, _, _⟩ := DataW.trod_int Try.underlying3 h2
  injection hs with hs
  injection hx with hx
  subst hs hx
  rcases open_ints Try.underlying23 Try.underlying75 (by kernel_rfl) h1 with ⟨hcs, _⟩ | ⟨a, l, c, zs, hcs, _, hl, hm, hz, hx, hcell, hwz⟩
  · injection hcs with hcs
    subst hcs
    exact ⟨s, none, 0, 0, _, x, rfl, Rd.nil W _, fun _ => ⟨rfl, rfl⟩⟩
  · injection hcs with hcs
    subst hcs
    subst hx
    have hr := hw (((lits (H := H) .u32 (zs.take l)).length + (lits (H := H) .u32 (zs.drop l)).length) * Try.prog.bytesOf 75) (by
      simp [DataW.weights, DataW.weightsEach, Try.underlying25, Try.underlying23])
    exact ⟨s, some a, l, c, _, x, rfl, rd_of_ints hl (by simpa using hz) hr hcell hwz, fun h => by cases h⟩

theorem wf_i64 {n : Int} (h : (Lit.int .i64 n).wf = true) : -9223372036854775808 ≤ n ∧ n ≤ 9223372036854775807 := by
  have hmin : IntKind.i64.min = -9223372036854775808 := rfl
  have hmax : IntKind.i64.max = 9223372036854775807 := rfl
  simp only [Lit.wf, Bool.and_eq_true, decide_eq_true_eq] at h
  omega

end Go.Proofs.Ytejngjhdmneaiaa

