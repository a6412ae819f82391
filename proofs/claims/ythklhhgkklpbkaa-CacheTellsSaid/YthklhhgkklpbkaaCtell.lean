/- The document's Told and Offer. -/
import Derived.Test.YthklhhgkklpbkaaCone
namespace Go.Proofs.Ythklhhgkklpbkaa
open Go.RowKit Go.Shelf Go.Lib

theorem od_one {X : World} {N : Nat} {d1 d2 : Int} (h : X.heap[N]? = some (.cells #[.int .i64 d1, .int .i64 d2] 29 (0, 0))) : Od X N (.slice (some ⟨N, 0, none⟩) 1 1) [(d1, d2)] :=
  ⟨⟨rfl, .inr ⟨N, 1, _, rfl, Nat.le_refl _, h, Nat.le_refl _, by unfold maxLen; omega, rfl, rfl⟩⟩, by simp⟩
theorem own_one {B N : Nat} (h : B ≤ N) : ∀ k, (Value.slice (some ⟨N, 0, none⟩) 1 1).ownBlock = some k → B ≤ k := fun k hk => by
  obtain rfl : N = k := by simpa [Value.ownBlock] using hk
  exact h

set_option maxHeartbeats 3200000 in
theorem rctold_any {w : World} {B n c : Nat} {A : Option Addr} {l : List De} (o p now : Int) (h : Ds w B A n c l) (hB : B ≤ w.heap.size) (hn : n ≤ 900) :
    Calls Try.prog 33 #[cav o p (.slice A n c), .int .i64 now] w fun e w' => ∃ v, e = .returned v ∧ Hid (Od w' w.heap.size v (tld o now l) ∧ Below w.heap.size w w') := by
  have H := hid (h.mono hB)
  have HL := hid h.len
  have hcap := h.cap
  clear h hB
  obtain ⟨W, hW⟩ : ∃ W, W = w.alloc (.cells #[.int .i64 o, .int .i64 p, .slice A n c] 24) := ⟨_, rfl⟩
  have B0 := hid (show Below w.heap.size w W from hW ▸ (Below.refl _ w).alloc (Nat.le_refl _) _)
  have hz : W.heap.size = w.heap.size + 1 := by rw [hW]; simp
  have X0 := hid (show Cbox W w.heap.size o p (.slice A n c) from hW ▸ heap_alloc_new w _)
  have HW := hid hW
  clear hW
  have HE := hid (od_one (heap_alloc_new W (.cells #[.int .i64 o, .int .i64 now] 29)))
  have HD := hid ((H.out.below B0.out).below ((Below.refl w.heap.size W |>.mono (Nat.le_refl _)).alloc (by omega) (.cells #[.int .i64 o, .int .i64 now] 29)))
  have hsz := hid (show W.heap.size ≤ (W.alloc (.cells #[.int .i64 o, .int .i64 now] 29)).heap.size by simp)
  have BY := hid (B0.out.alloc B0.out.size (.cells #[.int .i64 o, .int .i64 now] 29))
  have x0 := X0.out.c0
  have x2 := X0.out.c2
  rw [hz] at HE hsz
  unfold cav
  go_enter Try.func33, Try.ntmps33
  go_upto_region 1 with fail
  rw [← HW.out]
  clear HW
  go_wp2_with (at_builtin; refine list_appD rfl (.tmp 9) (.tmp 11) rfl (v := .slice (some ⟨w.heap.size + 1, 0, none⟩) 1 1) (B := w.heap.size + 1) (l := [(o, now)]) (r := l) rfl rfl HE.out HD.out (by simp only [List.length_cons, List.length_nil]; omega) hsz.out ?_; intro v6 w6 HT; have HO := hid (show Od w6 (w.heap.size + 1) v6 ((o, now) :: l) from HT.out.own); have BT := hid (HT.out.below (own_one (Nat.le_refl _)) hsz.out); clear HT; obtain ⟨A6, c6, rfl, hD6, _, _⟩ := HO.out.form; have HD6 := hid hD6; clear hD6; have B6 := hid (BY.out.trans (BT.out.mono (by omega))))
  refine (sorted_any HD6.out (Nat.le_refl _) (by have := HL.out; simp only [List.length_cons]; omega)).mono ?_
  rintro e w7 ⟨v7, rfl, hv⟩
  go_wp2
  go_ret
  exact ⟨_, rfl, hid ⟨hv.out.1.mono B6.out.size, B6.out.trans (hv.out.2.mono B6.out.size)⟩⟩

/-- What Offer answers. -/
def ofE (o p now : Int) (l : List De) : Int := if CMay o p l then if now < 0 ∨ now > 2147483647 then 2 else 0 else 8
def ofL (o p now : Int) (l : List De) : List De := if ofE o p now l = 0 then tld o now l else []

set_option maxHeartbeats 3200000 in
theorem rcoffer_any {w : World} {B n c : Nat} {A : Option Addr} {l : List De} (o p now : Int) (h : Ds w B A n c l) (hB : B ≤ w.heap.size) :
    Calls Try.prog 16 #[cav o p (.slice A n c), .int .i64 now] w fun e w' => ∃ v, e = .returned (.tuple #[v, .int .i64 (ofE o p now l)]) ∧ Hid (Od w' w.heap.size v (ofL o p now l) ∧ Below w.heap.size w w') := by
  have H := hid (h.mono hB)
  have HL := hid h.len
  clear h hB
  obtain ⟨W, hW⟩ : ∃ W, W = w.alloc (.cells #[.int .i64 o, .int .i64 p, .slice A n c] 24) := ⟨_, rfl⟩
  have B0 := hid (show Below w.heap.size w W from hW ▸ (Below.refl _ w).alloc (Nat.le_refl _) _)
  have X0 := hid (show Cbox W w.heap.size o p (.slice A n c) from hW ▸ heap_alloc_new w _)
  have x0 := X0.out.c0
  have x1 := X0.out.c1
  have x2 := X0.out.c2
  have HW := hid hW
  clear hW
  have CM := hid (fun X (hb : Below w.heap.size w X) => rmay_any o p (H.out.below hb) hb.size)
  have HX := hid (fun X (hb : Below W.heap.size W X) => X0.out.below hb X0.out.lt)
  by_cases hq : CMay o p l
  case neg =>
    have hE : ofE o p now l = 8 := by unfold ofE; rw [if_neg hq]
    have hF : ofL o p now l = [] := by unfold ofL; rw [if_neg (by rw [hE]; decide)]
    rw [hE, hF]
    rw [decide_eq_false hq] at CM
    clear hq hE hF
    unfold cav at CM ⊢
    go_enter Try.func16, Try.ntmps16
    go_upto_region 1 with fail
    rw [← HW.out]
    clear HW
    go_wp2_with fail
    refine (CM.out _ B0.out).mono ?_
    rintro e w1 ⟨rfl, hb⟩
    go_wp2
    go_ret2
    exact ⟨_, rfl, hid ⟨Od.nil _ _, B0.out.trans (hb.out.mono B0.out.size)⟩⟩
  have HQ := hid hq
  have hn6 : n ≤ 6 := by
    obtain ⟨_, _, _, a4, a5, _⟩ := hq
    have := HL.out
    omega
  rw [decide_eq_true hq] at CM
  by_cases hlo : now < 0
  · have hE : ofE o p now l = 2 := by unfold ofE; rw [if_pos hq, if_pos (.inl hlo)]
    have hF : ofL o p now l = [] := by unfold ofL; rw [if_neg (by rw [hE]; decide)]
    rw [hE, hF]
    clear hq hE hF
    unfold cav at CM ⊢
    go_enter Try.func16, Try.ntmps16
    go_upto_region 1 with fail
    rw [← HW.out]
    clear HW
    go_wp2_with fail
    refine (CM.out _ B0.out).mono ?_
    rintro e w1 ⟨rfl, hb⟩
    go_wp2
    go_ret2
    exact ⟨_, rfl, hid ⟨Od.nil _ _, B0.out.trans (hb.out.mono B0.out.size)⟩⟩
  by_cases hhi : now > 2147483647
  · have hE : ofE o p now l = 2 := by unfold ofE; rw [if_pos hq, if_pos (.inr hhi)]
    have hF : ofL o p now l = [] := by unfold ofL; rw [if_neg (by rw [hE]; decide)]
    rw [hE, hF]
    clear hq hE hF
    unfold cav at CM ⊢
    go_enter Try.func16, Try.ntmps16
    go_upto_region 1 with fail
    rw [← HW.out]
    clear HW
    go_wp2_with fail
    refine (CM.out _ B0.out).mono ?_
    rintro e w1 ⟨rfl, hb⟩
    go_wp2
    go_ret2
    exact ⟨_, rfl, hid ⟨Od.nil _ _, B0.out.trans (hb.out.mono B0.out.size)⟩⟩
  have hE : ofE o p now l = 0 := by unfold ofE; rw [if_pos hq, if_neg (by omega)]
  have hF : ofL o p now l = tld o now l := by unfold ofL; rw [if_pos hE]
  rw [hE, hF]
  clear hq hE hF
  have CT := hid (fun X (hb : Below w.heap.size w X) => rctold_any o p now (H.out.below hb) hb.size (by omega))
  unfold cav at CM CT ⊢
  go_enter Try.func16, Try.ntmps16
  go_upto_region 1 with fail
  rw [← HW.out]
  clear HW
  go_wp2_with fail
  refine (CM.out _ B0.out).mono ?_
  rintro e w1 ⟨rfl, hb⟩
  have B1 := hid (B0.out.trans (hb.out.mono B0.out.size))
  have X1 := hid (HX.out _ hb.out)
  have x0' := X1.out.c0
  have x1' := X1.out.c1
  have x2' := X1.out.c2
  clear x0 x1 x2
  go_wp2_with fail
  refine (CT.out _ B1.out).mono ?_
  rintro e w2 ⟨v, rfl, hv⟩
  go_wp2
  go_ret2
  exact ⟨_, rfl, hid ⟨hv.out.1.mono B1.out.size, B1.out.trans (hv.out.2.mono B1.out.size)⟩⟩
end Go.Proofs.Ythklhhgkklpbkaa
