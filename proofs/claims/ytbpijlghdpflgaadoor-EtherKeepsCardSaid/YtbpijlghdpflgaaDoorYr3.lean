/- Ether: the document's Great, Counted, Many. -/
import Derived.Test.YtbpijlghdpflgaaDoorYr2
namespace Go.Proofs.YtbpijlghdpflgaaDoor.Eth
open Go.RowKit Go.Shelf Go.Lib

theorem take_cp {l : List Cp} {k : Nat} {p : Cp} (h : l[k]? = some p) : l.take (k + 1) = l.take k ++ [p] := by
  rw [List.take_add_one, h]
  rfl
theorem sumT_snoc (l : List Cp) (p : Cp) : sumT (l ++ [p]) = sumT l + p.2.2.1.length := by
  induction l with
  | nil => simp [sumT]
  | cons q l ih => simp only [List.cons_append, sumT, ih]; omega
/-- As far as k no text is too long. -/
def ShortC (l : List Cp) (k : Nat) : Prop := (∀ p ∈ l.take k, p.2.2.1.length ≤ 5000) ∧ sumT (l.take k) ≤ 5000 * k
theorem ShortC.next {l : List Cp} {k : Nat} {p : Cp} (h : ShortC l k) (hp : l[k]? = some p) (hm : p.2.2.1.length ≤ 5000) : ShortC l (k + 1) := by
  unfold ShortC
  rw [take_cp hp]
  refine ⟨fun q hq => ?_, by rw [sumT_snoc]; have := h.2; omega⟩
  rcases List.mem_append.1 hq with hq | hq
  · exact h.1 q hq
  · obtain rfl : q = p := by simpa using hq
    exact hm

set_option maxHeartbeats 3200000 in
set_option maxRecDepth 100000 in
theorem great_any {w : World} {B n c : Nat} {A : Option Addr} {l : List Cp} (h : Cls w B A n c l) :
    Calls Tryd.prog 13 #[.slice A n c] w fun e w' => e = .returned (.bool (decide (grC l))) ∧ w' = w := by
  have H := hid h
  have hl := hid h.len
  have hcap := h.cap
  clear h
  by_cases hn : 20 < n
  · have hz : (n : Int) > 20 := by omega
    rw [decide_eq_true (show grC l from .inl (by rw [hl.out]; exact hn))]
    go_enter Tryd.func13, Tryd.ntmps13
    go_wp2
    go_ret
    exact ⟨rfl, rfl⟩
  · have hz : ¬ (n : Int) > 20 := by omega
    go_enter Tryd.func13, Tryd.ntmps13
    go_wp2
    go_loopg [3, 4] n (fun gg s3 s4 wr => ∃ (kk q : Nat), kk ≤ n ∧ n - kk ≤ gg ∧ s4 = .int .i64 kk ∧ s3 = .int .i64 q ∧ q ≤ 5000 * kk ∧ wr = w ∧ Hid (ShortC l kk) ∧ Hid (q = sumT (l.take kk)))
    case atStart => exact ⟨0, 0, Nat.zero_le _, by omega, rfl, rfl, by omega, rfl, hid ⟨by intro p hp; simp at hp, by simp [sumT]⟩, hid rfl⟩
    case round =>
      obtain ⟨kk, q, hkk, hg, rfl, rfl, hq, rfl, HA, HQ⟩ := hrel
      by_cases hlt : kk < n
      · have hltz : (kk : Int) < (n : Int) := by omega
        obtain ⟨b, off, x, y, A', n', c', t, s, rfl, hb, hp, c0, c1, c2, c3, ht, hf⟩ := H.out.get hlt
        have HP := hid hp
        have HT := hid ht.blen
        clear hp hf ht c0 c1 c3
        by_cases hm : 5000 < n'
        · have hmz : (n' : Int) > 5000 := by omega
          have HG := hid (decide_eq_true (show grC l from .inr (.inl ⟨_, List.mem_of_getElem? HP.out, by show 5000 < t.length; rw [HT.out]; exact hm⟩)))
          go_wp2
          go_ret
          exact ⟨by rw [HG.out]; rfl, rfl⟩
        · have hmz : ¬ (n' : Int) > 5000 := by omega
          have HN := hid (HA.out.next HP.out (by show t.length ≤ 5000; rw [HT.out]; omega))
          have HS := hid (show sumT (l.take (kk + 1)) = sumT (l.take kk) + n' by rw [take_cp HP.out, sumT_snoc]; show _ + t.length = _; rw [HT.out])
          go_wp2
          go_roundg (n - (kk + 1))
          case measure => omega
          case rel => exact ⟨kk + 1, q + n', by omega, by omega, by go_num, by go_num, by omega, rfl, HN, hid (by rw [HS.out, HQ.out])⟩
      · have hltz : ¬ (kk : Int) < (n : Int) := by omega
        obtain rfl : kk = n := by omega
        have hall : l.take kk = l := List.take_of_length_le (by rw [hl.out]; exact Nat.le_refl _)
        have h1 := HA.out.1
        have h2 := HQ.out
        rw [hall] at h1 h2
        by_cases h9 : 9000 < q
        · have hz9 : (q : Int) > 9000 := by omega
          have hz9d : decide (9000 < q) = true := decide_eq_true h9
          have HG := hid (decide_eq_true (show grC l from .inr (.inr (by rw [← h2]; exact h9))))
          clear h1 h2 hall HA HQ
          go_wp2
          go_ret
          exact ⟨by rw [HG.out]; simp, rfl⟩
        · have hz9 : ¬ (q : Int) > 9000 := by omega
          have hz9d : decide (9000 < q) = false := decide_eq_false h9
          have HG := hid (decide_eq_false (show ¬ grC l from fun h => by
            rcases h with h | ⟨p, hp, h⟩ | h
            · have := hl.out; omega
            · have := h1 p hp; omega
            · omega))
          clear h1 h2 hall HA HQ
          go_wp2
          go_ret
          exact ⟨by rw [HG.out]; simp, rfl⟩

theorem cnt_snoc (l : List Cp) (p : Cp) (x : Int) : cnt (l ++ [p]) x = cnt l x + (if p.1 = x then 1 else 0) := by
  unfold cnt
  rw [List.filter_append, List.length_append]
  by_cases h : p.1 = x
  · rw [if_pos h, List.filter_cons_of_pos (by simpa using h)]; rfl
  · rw [if_neg h, List.filter_cons_of_neg (by simpa using h)]; rfl
end Go.Proofs.YtbpijlghdpflgaaDoor.Eth
