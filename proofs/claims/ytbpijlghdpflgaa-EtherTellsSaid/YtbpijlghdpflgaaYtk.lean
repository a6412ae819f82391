/- Ether: the document's Without and Take. -/
import Derived.Test.YtbpijlghdpflgaaYdb
namespace Go.Proofs.Ytbpijlghdpflgaa.Eth
open Go.RowKit Go.Shelf Go.Lib

/-- What Without leaves. -/
def WitR (w : World) (n : Nat) (l : List Cp) (e : Ending) (w' : World) : Prop := ∃ A' c' rs, e = .returned (.slice A' n c') ∧ Hid (Cow w' (fun q => w.heap.size ≤ q) A' n c' rs l ∧ Below w.heap.size w w')

set_option maxHeartbeats 6400000 in
set_option maxRecDepth 100000 in
theorem without_any {w : World} {B n c : Nat} {A : Option Addr} {l : List Cp} (h : Cls w B A n c l) (hB : B ≤ w.heap.size) (hn : n ≤ 16) (hm : ∀ p ∈ l, MayC p) {k : Nat} (hk : k < n) :
    Calls Try.prog 26 #[.slice A n c, .int .i64 (k : Int)] w (WitR w (n - 1) (l.take k ++ l.drop (k + 1))) := by
  obtain ⟨b, off, _, _, _, _, _, _, _, rfl, hbb, _⟩ := h.get hk
  have H := hid (h.mono hB)
  have hl := hid h.len
  have hcap := h.cap
  have HMY := hid (show ∀ p ∈ l.take k ++ l.drop (k + 1), MayC p from fun p hp => by
    rcases List.mem_append.1 hp with h1 | h1
    · exact hm p (List.mem_of_mem_take h1)
    · exact hm p (List.mem_of_mem_drop h1))
  clear h hB hm hbb
  have hw3 : IntKind.i64.wrap ((k : Int) + 1) = (k : Int) + 1 := by rw [IntKind.wrap_i64]; omega
  have htn : ((k : Int) + 1).toNat = k + 1 := by omega
  have hb1 : (0 : Int) ≤ (k : Int) + 1 := by omega
  have hb2 : (k : Int) + 1 ≤ (n : Int) := by omega
  have hb3 : (k : Int) ≤ (c : Int) := by omega
  have hb5 : (k : Int) ≤ (n : Int) := by omega
  have ha1 : k + 1 ≤ c := by omega
  obtain ⟨rl, hg, hpr⟩ := H.out
  have HPR := hid hpr
  have E0 := hid (show Gw (w.alloc (.cells #[] 25)) w.heap.size 25 4 (.slice (some ⟨w.heap.size, 0, none⟩) 0 0) 0 [] from Gw.none' (heap_alloc_new w _) (Nat.le_refl _) (by unfold maxLen; omega) rfl)
  have b0 := hid (show Below w.heap.size w (w.alloc (.cells #[] 25)) from (Below.refl _ w).alloc (Nat.le_refl _) _)
  have HS1 := hid (fun (X : World) (hX : Below w.heap.size w X) => show Gs X w.heap.size (some ⟨b, off, none⟩) k c 4 (cellsC (rl.take k)) by
    rw [← cellsC_take]
    exact (hg.below hX).first (by omega) (by omega) (fun e => (by cases e)))
  have HS3 := hid (fun (X : World) (hX : Below w.heap.size w X) => show Gs X w.heap.size (some ⟨b, off + (k + 1) * 4, none⟩) (n - (k + 1)) (c - (k + 1)) 4 (cellsC (rl.drop (k + 1))) by
    rw [← cellsC_drop]
    exact (hg.below hX).rest (by omega) (by omega))
  have HS4 := hid (fun (X : World) (hX : Below w.heap.size w X) (hkn : c = k + 1) => show Gs X w.heap.size (some ⟨b, off, none⟩) 0 0 4 (cellsC (rl.drop (k + 1))) by
    have h1 := (hg.below hX).rest (p := k + 1) (c' := 0) (by omega) (by omega)
    rw [cellsC_drop, show n - (k + 1) = 0 by omega] at h1
    have h2 := h1.len
    rw [Nat.zero_mul] at h2
    rw [List.length_eq_zero_iff.1 h2]
    exact Gs.none' _ _ _ _ _)
  have HJ := hid (fun (X : World) (hX : Below w.heap.size w X) => show Pair X X.heap.size (rl.take k ++ rl.drop (k + 1)) (l.take k ++ l.drop (k + 1)) from (((HPR.out.take k).append (HPR.out.drop (k + 1))).below hX).mono hX.size)
  clear hg hpr
  by_cases hpc : c = k + 1
  · have hs4 := hid (fun (X : World) (hX : Below w.heap.size w X) => HS4.out X hX hpc)
    clear HS3 HS4
    subst hpc
    obtain rfl : n = k + 1 := by omega
    have hz3 : k + 1 - (k + 1) = 0 := by omega
    go_enter Try.func26, Try.ntmps26
    go_wp2_with (first
      | (at_builtin
         refine list_appC (v := .slice (some ⟨w.heap.size, 0, none⟩) 0 0) (cs := []) (rs := rl.take k) rfl _ _ rfl rfl rfl E0.out (HS1.out _ b0.out) (by omega) (Nat.le_trans (by simp) b0.out.size) ?_
         intro v1 w1 T1
         rw [Nat.zero_add, List.nil_append] at T1
         have b1 := hid (b0.out.trans (T1.out.below E0.out b0.out.size)))
      | (at_builtin
         refine list_appC (v := v1) (cs := cellsC (rl.take k)) (rs := rl.drop (k + 1)) rfl _ _ rfl rfl rfl T1.out.own (hs4.out _ b1.out) (by omega) b1.out.size ?_
         intro v2 w2 T2
         have b2 := hid (b1.out.trans (T2.out.below T1.out.own b1.out.size))
         rw [Nat.add_zero] at T2
         obtain ⟨A2, c2, rfl, g2, m2, a2, o2⟩ := T2.out.own.form
         have CL := hid (show Cls w2 w2.heap.size A2 k c2 (l.take k ++ l.drop (k + 1)) from ⟨_, by rw [cellsC_append]; exact g2, HJ.out _ b2.out⟩)
         clear g2 m2 a2 o2 T2)
      | (go_at_call 5
         with_reducible refine (twin_own CL.out (Nat.le_refl _) (by omega) HMY.out).mono ?_
         rintro e w3 ⟨A3, c3, rs3, rfl, h3⟩)
      | fail)
    go_ret
    exact ⟨A3, c3, rs3, rfl, hid ⟨h3.out.1.mono (fun q hq => Nat.le_trans b2.out.size hq), b2.out.trans (h3.out.2.mono b2.out.size)⟩⟩
  · clear HS4
    have hkc : ¬ (c = k + 1) := hpc
    go_enter Try.func26, Try.ntmps26
    go_wp2_with (first
      | (at_builtin
         refine list_appC (v := .slice (some ⟨w.heap.size, 0, none⟩) 0 0) (cs := []) (rs := rl.take k) rfl _ _ rfl rfl rfl E0.out (HS1.out _ b0.out) (by omega) (Nat.le_trans (by simp) b0.out.size) ?_
         intro v1 w1 T1
         rw [Nat.zero_add, List.nil_append] at T1
         have b1 := hid (b0.out.trans (T1.out.below E0.out b0.out.size)))
      | (at_builtin
         refine list_appC (v := v1) (cs := cellsC (rl.take k)) (rs := rl.drop (k + 1)) rfl _ _ rfl rfl rfl T1.out.own (HS3.out _ b1.out) (by omega) b1.out.size ?_
         intro v2 w2 T2
         have b2 := hid (b1.out.trans (T2.out.below T1.out.own b1.out.size))
         rw [show k + (n - (k + 1)) = n - 1 by omega] at T2
         obtain ⟨A2, c2, rfl, g2, m2, a2, o2⟩ := T2.out.own.form
         have CL := hid (show Cls w2 w2.heap.size A2 (n - 1) c2 (l.take k ++ l.drop (k + 1)) from ⟨_, by rw [cellsC_append]; exact g2, HJ.out _ b2.out⟩)
         clear g2 m2 a2 o2 T2)
      | (go_at_call 5
         with_reducible refine (twin_own CL.out (Nat.le_refl _) (by omega) HMY.out).mono ?_
         rintro e w3 ⟨A3, c3, rs3, rfl, h3⟩)
      | fail)
    go_ret
    exact ⟨A3, c3, rs3, rfl, hid ⟨h3.out.1.mono (fun q hq => Nat.le_trans b2.out.size hq), b2.out.trans (h3.out.2.mono b2.out.size)⟩⟩
end Go.Proofs.Ytbpijlghdpflgaa.Eth
