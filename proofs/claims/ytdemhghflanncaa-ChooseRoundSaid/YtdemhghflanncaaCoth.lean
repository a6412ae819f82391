/- The document's Others. -/
import Derived.Test.YtdemhghflanncaaKali
import Derived.Test.YtdemhghflanncaaCmath
namespace Go.Proofs.Ytdemhghflanncaa
open Go.RowKit Go.Shelf Go.Lib

theorem oth_one (own : Int) (d : De) : oth own [d] = if d.1 = own then [] else [d] := by
  unfold oth
  by_cases h : d.1 = own
  · rw [if_pos h, List.filter_cons, if_neg (by simpa using h)]; rfl
  · rw [if_neg h, List.filter_cons, if_pos (by simpa using h)]; rfl

set_option maxHeartbeats 6400000 in
set_option maxRecDepth 100000 in
theorem others_any {w : World} {B n c : Nat} {A : Option Addr} {l : List De} (own : Int) (h : Ds w B A n c l) (hB : B ≤ w.heap.size) (hn : n ≤ 1000) :
    Calls Try.prog 40 #[.slice A n c, .int .i64 own] w fun e w' => ∃ v, e = .returned v ∧ Hid (Od w' w.heap.size v (oth own l) ∧ Below w.heap.size w w') := by
  have H := hid (h.mono hB)
  have hm := h.max
  have hcap := h.cap
  have HL := hid h.len
  clear h
  go_enter Try.func40, Try.ntmps40
  go_wp2
  go_loopg [5, 6] n (fun gg s5 s6 wr => ∃ kk : Nat, kk ≤ n ∧ n - kk ≤ gg ∧ s6 = .int .i64 kk ∧ Hid (Od wr w.heap.size s5 (oth own (l.take kk))) ∧ Hid (Below w.heap.size w wr))
  case atStart => exact ⟨0, Nat.zero_le _, by omega, rfl, hid (Od.nil w _), hid (Below.refl _ w)⟩
  case round =>
    obtain ⟨kk, hkk, hg, rfl, HO, BW⟩ := hrel
    by_cases hlt : kk < n
    case neg =>
      have hltz : ¬ (kk : Int) < (n : Int) := by omega
      obtain rfl : kk = n := by omega
      go_wp2
      go_ret
      refine ⟨_, rfl, hid ⟨?_, BW.out⟩⟩
      have h1 := HO.out
      rw [List.take_of_length_le (by rw [HL.out]; exact Nat.le_refl _)] at h1
      exact h1
    have hltz : (kk : Int) < (n : Int) := by omega
    obtain ⟨d, hd⟩ := H.out.get hlt
    obtain ⟨b, off, rfl, hbB, hc⟩ := (H.out.below BW.out).at_ (by omega)
    obtain ⟨c1, c2⟩ := hc kk d hd
    have HS := hid (show oth own (l.take (kk + 1)) = _ from by rw [take_snoc hd, oth_append, oth_one])
    clear hc hd
    obtain ⟨d1, d2⟩ := d
    change wr.cell? ⟨b, off + kk * 2, none⟩ = some (.int .i64 d1) at c1
    change wr.cell? ⟨b, off + kk * 2 + 1, none⟩ = some (.int .i64 d2) at c2
    by_cases hd1 : d1 = own
    · have HR := hid (HS.out.trans (show _ = oth own (l.take kk) from by rw [if_pos hd1, List.append_nil]))
      clear HS
      subst hd1
      go_wp2
      go_roundg (n - (kk + 1))
      case measure => omega
      case rel => exact ⟨kk + 1, by omega, by omega, by go_num, hid (by rw [HR.out]; exact HO.out), BW⟩
    · have HR := hid (HS.out.trans (show _ = oth own (l.take kk) ++ [(d1, d2)] from by rw [if_neg hd1]))
      clear HS
      have HLe : Hid ((oth own (l.take kk)).length ≤ 1000) := hid (by
        have h1 := List.length_filter_le (fun d : De => decide (d.1 ≠ own)) (l.take kk)
        rw [List.length_take] at h1
        unfold oth
        omega)
      have HM : Hid ((wr.alloc (.cells #[.int .i64 d1, .int .i64 d2] 23)).heap[wr.heap.size]? = some (.cells #[.int .i64 d1, .int .i64 d2] 23 (0, 0))) := hid (heap_alloc_new wr _)
      have HOd := hid (HO.out.below ((Below.refl wr.heap.size wr).alloc (Nat.le_refl _) (.cells #[.int .i64 d1, .int .i64 d2] 23)))
      have HBd := hid (BW.out.alloc BW.out.size (.cells #[.int .i64 d1, .int .i64 d2] 23))
      have HOL := hid (fun k hk => (own_lt HO.out k hk).1)
      go_wp2_with (at_builtin; refine list_appD rfl (.tmp 20) (.tmp 25) rfl (v := u5) (B := w.heap.size) (l := oth own (l.take kk)) (r := [(d1, d2)]) rfl rfl HOd.out (ds_at HM.out) (by have := HLe.out; omega) HBd.out.size ?_; intro v40 w40 HT)
      go_roundg (n - (kk + 1))
      case measure => omega
      case rel => exact ⟨kk + 1, by omega, by omega, by go_num, hid (by rw [HR.out]; exact HT.out.own), hid (HBd.out.trans (HT.out.below HOL.out HBd.out.size))⟩
end Go.Proofs.Ytdemhghflanncaa
