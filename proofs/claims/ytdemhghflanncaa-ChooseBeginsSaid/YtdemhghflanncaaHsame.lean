/- The document's SameDraws. -/
import Derived.Test.YtdemhghflanncaaHlist
import Derived.Test.YtdemhghflanncaaKsame
import Derived.Test.YtdemhghflanncaaHmath
namespace Go.Proofs.Ytdemhghflanncaa
open Go.RowKit Go.Shelf Go.Lib

theorem decU_ne {l m : List Nat} {k : Nat} {d e : Nat} (h1 : l[k]? = some d) (h2 : m[k]? = some e) (h : d ≠ e) : decide (l = m) = false := by
  rw [decide_eq_false_iff_not]
  intro hl
  rw [hl, h2] at h1
  injection h1 with h1
  exact h h1.symm

set_option maxHeartbeats 3200000 in
set_option maxRecDepth 100000 in
theorem samed_any {w : World} {B C n c m d : Nat} {A D : Option Addr} {l r : List Nat} (h : Us w B A n c l) (k : Us w C D m d r) (hB : B ≤ w.heap.size) (hC : C ≤ w.heap.size) :
    Calls Try.prog 19 #[.slice A n c, .slice D m d] w fun e w' => e = .returned (.bool (decide (l = r))) ∧ Hid (Below w.heap.size w w') := by
  have H := hid (h.mono hB)
  have K := hid (k.mono hC)
  have hl := h.len
  have hr := k.len
  have hm := h.max
  have hm2 := k.max
  have hcap := h.cap
  have hcap2 := k.cap
  clear h k
  by_cases hnm : n = m
  case neg =>
    have hne : ¬ (n : Int) = (m : Int) := by omega
    have hd : decide (l = r) = false := by
      rw [decide_eq_false_iff_not]
      intro e
      rw [e] at hl
      omega
    rw [hd]
    go_enter Try.func19, Try.ntmps19
    go_wp2
    go_ret
    exact ⟨rfl, hid (Below.refl _ _)⟩
  subst hnm
  clear hm2
  have HL := hid hl
  have HR := hid hr
  clear hl hr
  go_enter Try.func19, Try.ntmps19
  go_wp2
  go_loopg [5] n (fun gg s5 wr => ∃ kk : Nat, kk ≤ n ∧ n - kk ≤ gg ∧ s5 = .int .i64 kk ∧ Hid (Below w.heap.size w wr) ∧ Hid (∀ j, j < kk → l[j]? = r[j]?))
  case atStart => exact ⟨0, Nat.zero_le _, by omega, rfl, hid (Below.refl _ w), hid (fun j hj => absurd hj (Nat.not_lt_zero _))⟩
  case round =>
    obtain ⟨kk, hkk, hg, rfl, BW, HA⟩ := hrel
    by_cases hlt : kk < n
    · have hltz : (kk : Int) < (n : Int) := by omega
      obtain ⟨x, hx⟩ := H.out.get hlt
      obtain ⟨y, hy⟩ := K.out.get hlt
      obtain ⟨b, off, rfl, _, hc⟩ := (H.out.below BW.out).at_ (by omega)
      obtain ⟨b', off', rfl, _, hc'⟩ := (K.out.below BW.out).at_ (by omega)
      have c1 := hc kk x hx
      have c3 := hc' kk y hy
      have Hx := hid hx
      have Hy := hid hy
      clear hc hc' hx hy
      have mixed : Try.prog.follows .mixedOrders = true := by kernel_rfl
      by_cases hxy : x = y
      · have hxz : (x : Int) = (y : Int) := by rw [hxy]
        have HX := hid hxy
        clear hxy
        go_wp2_with fail
        go_quiet_o (fail)
        go_wp2
        go_roundg (n - (kk + 1))
        case measure => omega
        case rel =>
          refine ⟨kk + 1, by omega, by omega, by go_num, hid (below_drewN BW.out _), hid (fun j hj => ?_)⟩
          by_cases hjk : j = kk
          · subst hjk
            rw [Hx.out, Hy.out, HX.out]
          · exact HA.out j (by omega)
      · have hxz : ¬ (x : Int) = (y : Int) := by omega
        have HX := hid hxy
        clear hxy
        go_wp2_with fail
        go_quiet_o (fail)
        go_wp2
        go_ret
        refine ⟨?_, hid (below_drewN BW.out _)⟩
        rw [decU_ne Hx.out Hy.out HX.out]
        rfl
    · have hltz : ¬ (kk : Int) < (n : Int) := by omega
      obtain rfl : kk = n := by omega
      go_wp2
      go_ret
      refine ⟨?_, BW⟩
      have : l = r := List.ext_getElem? fun j => by
        rcases Nat.lt_or_ge j kk with hj | hj
        · exact HA.out j hj
        · rw [List.getElem?_eq_none (by rw [HL.out]; exact hj), List.getElem?_eq_none (by rw [HR.out]; exact hj)]
      rw [decide_eq_true this]
      rfl
end Go.Proofs.Ytdemhghflanncaa
