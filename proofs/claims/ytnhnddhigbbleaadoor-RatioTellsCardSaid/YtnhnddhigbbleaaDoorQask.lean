/- Ratio, the document's side: asked. -/
import Derived.Test.YtnhnddhigbbleaaDoorQm
import Derived.Test.YtnhnddhigbbleaaDoorRg
namespace Go.Proofs.YtnhnddhigbbleaaDoor
open Go.RowKit

/-- The error of what is asked. -/
def Qe0 (p q : Prop) (N k er : Int) : Prop := (¬ (p ∧ q) → er = 8) ∧ (p ∧ q → ¬ (0 < N ∧ 0 ≤ k ∧ k ≤ 64) → er = 2) ∧ (p ∧ q → 0 < N ∧ 0 ≤ k ∧ k ≤ 64 → er = 0)
theorem dv_pos {t : Bool} {m Y : Nat} {h : Nat → Nat} (hf : Fit m h) : 0 < dv t (vl h m) Y ↔ t = false ∧ 0 < m := by
  have h0 := vl_zero_iff hf
  have htp := tp_pos (4000 - Y)
  cases t with
  | true =>
    have h4 : dv true (vl h m) Y = -((vl h m * tp (4000 - Y) : Nat) : Int) := rfl
    constructor
    · intro h; omega
    · rintro ⟨h, _⟩; cases h
  | false =>
    have h4 : dv false (vl h m) Y = ((vl h m * tp (4000 - Y) : Nat) : Int) := rfl
    rw [h4]
    constructor
    · intro hp
      refine ⟨rfl, ?_⟩
      rcases Nat.eq_zero_or_pos m with e | e
      · rw [h0.2 e, Nat.zero_mul] at hp
        omega
      · exact e
    · rintro ⟨_, hm⟩
      have : 0 < vl h m * tp (4000 - Y) := Nat.mul_pos (by omega) htp
      omega

set_option maxHeartbeats 3200000 in
theorem asked_any {w : World} {p q : Prop} {M N k : Int} {v u : Value} (h1 : DArg w p M v) (h2 : DArg w q N u) :
    Calls Tryd.prog 15 #[v, u, .int .i64 k] w fun e w' => ∃ er, e = .returned (.int .i64 er) ∧ Hid (Qe0 p q N k er) ∧ Hid (Below w.heap.size w w') := by
  obtain ⟨s, A, n, c, f, x, rfl, ra, da, ma⟩ := h1
  obtain ⟨t, D, m, d, h, y, rfl, rb, db, mb⟩ := h2
  have K := hid (((Below.refl w.heap.size w).alloc (Nat.le_refl _) (.cells #[.bool s, .slice A n c, .int .i64 x] 24)).alloc (by simp) (.cells #[.bool t, .slice D m d, .int .i64 y] 24))
  have P0 : Hid (Dbox _ w.heap.size s (.slice A n c) x) := (Below.heap_alloc _ (.cells #[.bool t, .slice D m d, .int .i64 y] 24) _ (by simp)).trans (heap_alloc_new w (.cells #[.bool s, .slice A n c, .int .i64 x] 24))
  have P1 : Hid (Dbox _ (w.heap.size + 1) t (.slice D m d) y) := heap_alloc2_new w (.cells #[.bool s, .slice A n c, .int .i64 x] 24) (.cells #[.bool t, .slice D m d, .int .i64 y] 24)
  have CA := hid (fun X (hb : Below w.heap.size w X) => emay_any ((ra.below hb).mono hb.size) s x)
  have CB := hid (fun X (hb : Below w.heap.size w X) => emay_any ((rb.below hb).mono hb.size) t y)
  obtain ⟨W, hW⟩ : ∃ W, W = (w.alloc (.cells #[.bool s, .slice A n c, .int .i64 x] 24)).alloc (.cells #[.bool t, .slice D m d, .int .i64 y] 24) := ⟨_, rfl⟩
  have HW := hid hW
  rw [← hW] at K P0 P1
  have hmd := rb.max
  have Hda := hid da
  have Hdb := hid db
  have Hmb := hid mb
  obtain ⟨pa, hpa⟩ : ∃ b, b = decide (DMay s n f x) := ⟨_, rfl⟩
  obtain ⟨pb, hpb⟩ : ∃ b, b = decide (DMay t m h y) := ⟨_, rfl⟩
  rw [← hpa] at CA
  rw [← hpb] at CB
  have Hpa := hid hpa
  have Hpb := hid hpb
  clear hW ra da ma rb db mb hpa hpb
  have a0 := P0.out.c0
  have a1 := P0.out.c1
  have a2 := P0.out.c2
  cases pa with
  | false =>
    have HN := hid (show ¬ (p ∧ q) from fun hn => (of_decide_eq_false Hpa.out.symm) (Hda.out.1 hn.1))
    go_enter Tryd.func15, Tryd.ntmps15
    go_upto_region 1 with fail
    rw [← HW.out]
    go_wp2_with fail
    refine (CA.out _ K.out).mono ?_
    rintro e w1 ⟨rfl, hb⟩
    go_wp2
    go_ret
    exact ⟨8, rfl, ⟨fun _ => rfl, fun h => absurd h HN.out, fun h => absurd h HN.out⟩, K.out.trans (hb.out.mono K.out.size)⟩
  | true =>
  have HP := hid (Hda.out.2 (of_decide_eq_true Hpa.out.symm))
  clear Hda Hpa
  go_enter Tryd.func15, Tryd.ntmps15
  go_upto_region 1 with fail
  rw [← HW.out]
  go_wp2_with fail
  refine (CA.out _ K.out).mono ?_
  rintro e w1 ⟨rfl, hb⟩
  have K1 := hid (K.out.trans (hb.out.mono K.out.size))
  have Q1 := hid (P1.out.below hb.out P1.out.lt)
  have b0 := Q1.out.c0
  have b1 := Q1.out.c1
  have b2 := Q1.out.c2
  clear hb CA a0 a1 a2 P0 P1 K HW
  cases pb with
  | false =>
    have HN := hid (show ¬ (p ∧ q) from fun hn => (of_decide_eq_false Hpb.out.symm) (Hdb.out.1 hn.2))
    go_wp2_with fail
    refine (CB.out _ K1.out).mono ?_
    rintro e w2 ⟨rfl, hb⟩
    go_wp2
    go_ret
    exact ⟨8, rfl, ⟨fun _ => rfl, fun h => absurd h HN.out, fun h => absurd h HN.out⟩, K1.out.trans (hb.out.mono K1.out.size)⟩
  | true =>
  have HQ := hid (Hdb.out.2 (of_decide_eq_true Hpb.out.symm))
  have HN : Hid (0 < N ↔ t = false ∧ 0 < m) := hid (by
    obtain ⟨Y, _, rfl⟩ := Hmb.out HQ.out
    exact dv_pos (of_decide_eq_true Hpb.out.symm).1)
  clear Hdb Hpb Hmb
  go_wp2_with fail
  refine (CB.out _ K1.out).mono ?_
  rintro e w2 ⟨rfl, hb⟩
  have K2 := hid (K1.out.trans (hb.out.mono K1.out.size))
  have Q2 := hid (Q1.out.below hb.out Q1.out.lt)
  clear b0 b1 b2 Q1 hb K1 CB
  have b0 := Q2.out.c0
  have b1 := Q2.out.c1
  have b2 := Q2.out.c2
  cases t with
  | true =>
    go_wp2
    go_ret
    exact ⟨2, rfl, ⟨fun h => absurd ⟨HP.out, HQ.out⟩ h, fun _ _ => rfl, fun _ h => absurd (HN.out.1 h.1).1 (by simp)⟩, K2.out⟩
  | false =>
  by_cases hm0 : m = 0
  · have hmz : ((m : Int) == 0) = true := by simp [hm0]
    have HM := hid hm0
    clear hm0
    go_wp2
    go_ret
    exact ⟨2, rfl, ⟨fun h => absurd ⟨HP.out, HQ.out⟩ h, fun _ _ => rfl, fun _ h => absurd (HN.out.1 h.1).2 (by have := HM.out; omega)⟩, K2.out⟩
  have hmz : ((m : Int) == 0) = false := by simp [hm0]
  have HM := hid hm0
  clear hm0
  by_cases hk0 : k < 0
  · go_wp2
    go_ret
    exact ⟨2, rfl, ⟨fun h => absurd ⟨HP.out, HQ.out⟩ h, fun _ _ => rfl, fun _ h => absurd h.2.1 (by omega)⟩, K2.out⟩
  by_cases hk64 : 64 < k
  · go_wp2
    go_ret
    exact ⟨2, rfl, ⟨fun h => absurd ⟨HP.out, HQ.out⟩ h, fun _ _ => rfl, fun _ h => absurd h.2.2 (by omega)⟩, K2.out⟩
  go_wp2
  go_ret
  exact ⟨0, rfl, ⟨fun h => absurd ⟨HP.out, HQ.out⟩ h, fun _ hn => absurd ⟨HN.out.2 ⟨by trivial, by have := HM.out; omega⟩, by omega, by omega⟩ hn, fun _ _ => rfl⟩, K2.out⟩
end Go.Proofs.YtnhnddhigbbleaaDoor
