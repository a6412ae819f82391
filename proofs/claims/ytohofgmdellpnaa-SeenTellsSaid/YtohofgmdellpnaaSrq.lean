/- Seen: the document's With, Has, Put, Below, First, Same, Great. -/
import Derived.Test.YtohofgmdellpnaaSrck
import Derived.Test.YtohofgmdellpnaaGi
namespace Go.Proofs.Ytohofgmdellpnaa.Seen
open Go.RowKit Go.Shelf Go.Lib

theorem great_any {w : World} {A : Option Addr} {n c : Nat} : Calls Try.prog 13 #[.slice A n c] w fun e w' => e = .returned (.bool (decide (200 < n ∧ n < 4096 ∨ 4100 < n))) ∧ w' = w := by
  by_cases h1 : 200 < n
  · have z1 : (n : Int) > 200 := by omega
    by_cases h2 : n < 4096
    · have z2 : (n : Int) < 4096 := by omega
      rw [decide_eq_true (.inl ⟨h1, h2⟩)]
      go_enter Try.func13, Try.ntmps13
      go_wp2
      go_ret
      exact ⟨rfl, rfl⟩
    · have z2 : ¬ (n : Int) < 4096 := by omega
      by_cases h3 : 4100 < n
      · have z3 : (n : Int) > 4100 := by omega
        rw [decide_eq_true (.inr h3)]
        go_enter Try.func13, Try.ntmps13
        go_wp2
        go_ret
        exact ⟨rfl, rfl⟩
      · have z3 : ¬ (n : Int) > 4100 := by omega
        rw [decide_eq_false (by omega)]
        go_enter Try.func13, Try.ntmps13
        go_wp2
        go_ret
        exact ⟨rfl, rfl⟩
  · have z1 : ¬ (n : Int) > 200 := by omega
    have z3 : ¬ (n : Int) > 4100 := by omega
    rw [decide_eq_false (by omega)]
    go_enter Try.func13, Try.ntmps13
    go_wp2
    go_ret
    exact ⟨rfl, rfl⟩

/-- What With has behind k numbers. -/
def Wth (l : List Int) (n : Int) (k : Nat) (put : Bool) (m : List Int) : Prop := insN l n = (if put = true then m ++ l.drop k else m ++ insN (l.drop k) n) ∧ m.length ≤ k + 1
theorem Wth.start (l : List Int) (n : Int) : Wth l n 0 false [] := ⟨rfl, by simp⟩
theorem Wth.put {l : List Int} {n x : Int} {k : Nat} {m : List Int} (h : Wth l n k false m) (hx : l[k]? = some x) (hn : n < x) (hm : m.length ≤ k) : Wth l n (k + 1) true ((m ++ [n]) ++ [x]) := by
  obtain ⟨hk, rfl⟩ := List.getElem?_eq_some_iff.1 hx
  refine ⟨?_, by simp; omega⟩
  rw [h.1, if_neg (by simp), if_pos rfl, List.drop_eq_getElem_cons hk]
  unfold insN
  rw [if_pos hn]
  simp
theorem Wth.on {l : List Int} {n x : Int} {k : Nat} {m : List Int} (h : Wth l n k false m) (hx : l[k]? = some x) (hn : ¬ n < x) : Wth l n (k + 1) false (m ++ [x]) := by
  obtain ⟨hk, rfl⟩ := List.getElem?_eq_some_iff.1 hx
  refine ⟨?_, by have := h.2; simp; omega⟩
  rw [h.1, if_neg (by simp), if_neg (by simp), List.drop_eq_getElem_cons hk]
  conv => lhs; unfold insN
  rw [if_neg hn]
  simp
theorem Wth.past {l : List Int} {n x : Int} {k : Nat} {m : List Int} (h : Wth l n k true m) (hx : l[k]? = some x) : Wth l n (k + 1) true (m ++ [x]) := by
  obtain ⟨hk, rfl⟩ := List.getElem?_eq_some_iff.1 hx
  refine ⟨?_, by have := h.2; simp; omega⟩
  rw [h.1, if_pos rfl, if_pos rfl, List.drop_eq_getElem_cons hk]
  simp
theorem Wth.end_ {l : List Int} {n : Int} {k : Nat} {m : List Int} {put : Bool} (h : Wth l n k put m) (hk : l.length ≤ k) : insN l n = if put = true then m else m ++ [n] := by
  have := h.1
  rw [List.drop_of_length_le hk] at this
  cases put
  · exact this
  · simpa using this
/-- Ahead of the place, what With has is as long as what it went through. -/
def WthL (k : Nat) (put : Bool) (m : List Int) : Prop := m.length ≤ k + (if put = true then 1 else 0)

set_option maxHeartbeats 6400000 in
set_option maxRecDepth 100000 in
theorem with_any {w : World} {B n c : Nat} {A : Option Addr} {l : List Int} (h : Gs w B A n c 1 (cellsI l)) (hB : B ≤ w.heap.size) (hn : n ≤ 9000) (x : Int) :
    Calls Try.prog 27 #[.slice A n c, .int .i64 x] w fun e w' => ∃ v, e = .returned v ∧ Hid (Gi w' w.heap.size v (insN l x) ∧ Below w.heap.size w w') := by
  have H := hid (h.mono hB)
  have hl := hid h.ilen
  have hcap := h.cap
  clear h hB
  go_enter Try.func27, Try.ntmps27
  go_wp2
  go_loopg [5, 6, 7] n (fun gg s5 s6 s7 wr => ∃ (kk : Nat) (put : Bool) (m : List Int) (v : Value), kk ≤ n ∧ n - kk ≤ gg ∧ s7 = .int .i64 kk ∧ s6 = .bool put ∧ v = s5 ∧ Hid (Gi wr w.heap.size v m ∧ Below w.heap.size w wr) ∧ Hid (Wth l x kk put m ∧ WthL kk put m))
  case atStart => exact ⟨0, false, [], _, Nat.zero_le _, by omega, rfl, rfl, rfl, hid ⟨Gi.nil _ _, Below.refl _ _⟩, hid ⟨Wth.start l x, by simp [WthL]⟩⟩
  case round =>
    obtain ⟨kk, put, m, v, hkk, hg, rfl, rfl, rfl, HO, HW⟩ := hrel
    by_cases hlt : kk < n
    · have hltz : (kk : Int) < (n : Int) := by omega
      obtain ⟨y, hy⟩ := H.out.iget hlt
      obtain ⟨b, off, rfl, _, hc⟩ := (H.out.below HO.out.2).iat (by omega)
      have c1 := hc kk y hy
      have Hy := hid hy
      have hml : m.length ≤ kk + 1 := by have := HW.out.2; unfold WthL at this; split at this <;> omega
      clear hc hy
      have fin : Hid (∀ (m2 : List Int) (put2 : Bool) (v' : Value) (W w3 : World), Wth l x (kk + 1) put2 m2 ∧ WthL (kk + 1) put2 m2 → Below w.heap.size w W → ∀ (v : Value) (r : List Int), Gi W w.heap.size v r → TurnI W w3 w.heap.size v v' m2 →
          (Hid (Gi w3 w.heap.size v' m2 ∧ Below w.heap.size w w3) ∧ Hid (Wth l x (kk + 1) put2 m2 ∧ WthL (kk + 1) put2 m2))) := hid fun m2 put2 v' W w3 h1 h2 v r h3 h4 => ⟨hid ⟨h4.own, h2.trans (h4.below h3 h2.size)⟩, hid h1⟩
      have HML : put = false → m.length ≤ kk := fun hp => by have := HW.out.2; unfold WthL at this; rw [hp, if_neg (by simp)] at this; omega
      have HML := hid HML
      cases put
      · have HMF := hid (HML.out rfl); clear HML
        by_cases hgt : y > x
        · have HX := hid hgt
          have a1 := hid (show Gi (wr.alloc (.cells #[.int .i64 x] 3)) w.heap.size v m from HO.out.1.below ((Below.refl _ wr).alloc (Nat.le_refl _) _))
          have a2 := hid (gi_one wr x 3)
          have a3 := hid (show Below w.heap.size w (wr.alloc (.cells #[.int .i64 x] 3)) from HO.out.2.alloc HO.out.2.size _)
          have HC1 := hid (fun (w2 : World) (h2 : Below w.heap.size w w2) => (H.out.below h2).icell Hy.out)
          go_wp2_with (first
            | (at_builtin; refine list_appI (v := v2) (l := m ++ [x]) (r := [y]) rfl _ _ rfl rfl rfl b1.out b2.out (by simp; omega) b3.out.size ?_; intro v3 w3 HU)
            | (at_builtin; refine list_appI (v := v) (l := m) (r := [x]) rfl _ _ rfl rfl rfl a1.out a2.out (by simp; omega) a3.out.size ?_; intro v2 w2 HT; have e3 := hid (a3.out.trans (HT.out.below a1.out a3.out.size)); have c2 := HC1.out w2 e3.out; have b1 := hid (HT.out.own.below ((Below.refl _ w2).alloc (Nat.le_refl _) (.cells #[.int .i64 y] 3))); have b2 := hid (gi_one w2 y 3); have b3 := hid (e3.out.alloc e3.out.size (.cells #[.int .i64 y] 3)))
            | fail)
          go_roundg (n - (kk + 1))
          case measure => omega
          case rel =>
            obtain ⟨q1, q2⟩ := fin.out _ true v3 _ w3 ⟨HW.out.1.put Hy.out (by have := HX.out; omega) HMF.out, by have := HMF.out; simp [WthL]; omega⟩ b3.out v2 _ b1.out HU.out
            exact ⟨kk + 1, true, _, _, by omega, by omega, by go_num, rfl, rfl, q1, q2⟩
        · have HX := hid hgt
          have b1 := hid (show Gi (wr.alloc (.cells #[.int .i64 y] 3)) w.heap.size v m from HO.out.1.below ((Below.refl _ wr).alloc (Nat.le_refl _) _))
          have b2 := hid (gi_one wr y 3)
          have b3 := hid (show Below w.heap.size w (wr.alloc (.cells #[.int .i64 y] 3)) from HO.out.2.alloc HO.out.2.size _)
          go_wp2_with (first
            | (at_builtin; refine list_appI (v := v) (l := m) (r := [y]) rfl _ _ rfl rfl rfl b1.out b2.out (by simp; omega) b3.out.size ?_; intro v3 w3 HU)
            | fail)
          go_roundg (n - (kk + 1))
          case measure => omega
          case rel =>
            obtain ⟨q1, q2⟩ := fin.out _ false v3 _ w3 ⟨HW.out.1.on Hy.out (by have := HX.out; omega), by have := HMF.out; simp [WthL]; omega⟩ b3.out v _ b1.out HU.out
            exact ⟨kk + 1, false, _, _, by omega, by omega, by go_num, rfl, rfl, q1, q2⟩
      · have b1 := hid (show Gi (wr.alloc (.cells #[.int .i64 y] 3)) w.heap.size v m from HO.out.1.below ((Below.refl _ wr).alloc (Nat.le_refl _) _))
        have b2 := hid (gi_one wr y 3)
        have b3 := hid (show Below w.heap.size w (wr.alloc (.cells #[.int .i64 y] 3)) from HO.out.2.alloc HO.out.2.size _)
        go_wp2_with (first
          | (at_builtin; refine list_appI (v := v) (l := m) (r := [y]) rfl _ _ rfl rfl rfl b1.out b2.out (by simp; omega) b3.out.size ?_; intro v3 w3 HU)
          | fail)
        go_roundg (n - (kk + 1))
        case measure => omega
        case rel =>
          obtain ⟨q1, q2⟩ := fin.out _ true v3 _ w3 ⟨HW.out.1.past Hy.out, by have := HW.out.2; simp [WthL] at *; omega⟩ b3.out v _ b1.out HU.out
          exact ⟨kk + 1, true, _, _, by omega, by omega, by go_num, rfl, rfl, q1, q2⟩
    · have hltz : ¬ (kk : Int) < (n : Int) := by omega
      obtain rfl : kk = n := by omega
      have he := HW.out.1.end_ (by rw [hl.out]; exact Nat.le_refl _)
      have hml : m.length ≤ kk + 1 := HW.out.1.2
      cases put
      · have HE := hid (he.trans (if_neg (by simp)))
        clear he
        have b1 := hid (show Gi (wr.alloc (.cells #[.int .i64 x] 3)) w.heap.size v m from HO.out.1.below ((Below.refl _ wr).alloc (Nat.le_refl _) _))
        have b2 := hid (gi_one wr x 3)
        have b3 := hid (show Below w.heap.size w (wr.alloc (.cells #[.int .i64 x] 3)) from HO.out.2.alloc HO.out.2.size _)
        go_wp2_with (first
          | (at_builtin; refine list_appI (v := v) (l := m) (r := [x]) rfl _ _ rfl rfl rfl b1.out b2.out (by simp; omega) b3.out.size ?_; intro v3 w3 HU)
          | fail)
        go_ret
        refine ⟨_, rfl, hid ⟨?_, b3.out.trans (HU.out.below b1.out b3.out.size)⟩⟩
        rw [HE.out]
        exact HU.out.own
      · have HE := hid (he.trans (if_pos rfl))
        clear he
        go_wp2
        go_ret
        refine ⟨_, rfl, hid ⟨?_, HO.out.2⟩⟩
        rw [HE.out]
        exact HO.out.1
end Go.Proofs.Ytohofgmdellpnaa.Seen
