/- The laws' own helpers ids and three. -/
import Derived.Test.YtdemhghflanncaaHdrw
import Derived.Laws.BytesArg
namespace Go.Proofs.Ytdemhghflanncaa
open Go.RowKit Go.Shelf Go.Lib

/-- Bytes as a string. -/
def strN (xs : List Nat) : ByteArray := ⟨(xs.map fun x => UInt8.ofNat x).toArray⟩
theorem strN_append (xs ys : List Nat) : strN xs ++ strN ys = strN (xs ++ ys) := by
  apply ByteArray.ext
  simp [strN, ByteArray.data_append]
theorem strN_size (xs : List Nat) : (strN xs).size = xs.length := by simp [strN, ByteArray.size]
/-- The bytes that ids tells. -/
def sof (l : List De) : List Nat := l.map fun d => (48 + d.1 % 10).toNat

set_option maxHeartbeats 3200000 in
set_option maxRecDepth 100000 in
theorem ids_any {w : World} {B n c : Nat} {A : Option Addr} {l : List De} (h : Ds w B A n c l) (hB : B ≤ w.heap.size) (hn : n ≤ 1000) (hid8 : ∀ d, d ∈ l → 0 ≤ d.1 ∧ d.1 < 8) :
    Calls Try.prog 13 #[.slice A n c] w fun e w' => e = .returned (.string (strN (sof l))) ∧ Hid (Below w.heap.size w w') := by
  have H := hid (h.mono hB)
  have HL := hid h.len
  have hcap := h.cap
  have H8 := hid hid8
  clear h hid8
  go_enter Try.func13, Try.ntmps13
  go_wp2
  go_loopg [3, 4] n (fun gg s3 s4 wr => ∃ kk : Nat, kk ≤ n ∧ n - kk ≤ gg ∧ s4 = .int .i64 kk ∧ s3 = .string (strN (sof (l.take kk))) ∧ Hid (Below w.heap.size w wr))
  case atStart => exact ⟨0, Nat.zero_le _, by omega, rfl, rfl, hid (Below.refl _ w)⟩
  case round =>
    obtain ⟨kk, hkk, hg, rfl, rfl, BW⟩ := hrel
    by_cases hlt : kk < n
    · have hltz : (kk : Int) < (n : Int) := by omega
      obtain ⟨d, hd⟩ := H.out.get hlt
      obtain ⟨b, off, rfl, hbB, hc⟩ := (H.out.below BW.out).at_ (by omega)
      obtain ⟨c1, _⟩ := hc kk d hd
      obtain ⟨h0, h8⟩ := H8.out d (List.mem_of_getElem? hd)
      obtain ⟨d1, d2⟩ := d
      change wr.cell? ⟨b, off + kk * 2, none⟩ = some (.int .i64 d1) at c1
      change 0 ≤ d1 at h0
      change d1 < 8 at h8
      obtain ⟨q, rfl⟩ : ∃ q : Nat, d1 = (q : Int) := ⟨d1.toNat, by omega⟩
      have hm : ((q : Int)).tmod 10 = (q : Int) := by rw [Int.tmod_eq_of_lt] <;> omega
      have hw : IntKind.u8.wrap (48 + (q : Int)) = 48 + (q : Int) := by rw [IntKind.wrap_u8]; omega
      have hx : Hid (strN (sof (l.take (kk + 1))) = strN (sof (l.take kk)) ++ strN [48 + q]) := hid (by
        rw [take_snoc hd, strN_append]
        congr 1
        unfold sof
        rw [List.map_append]
        congr 1
        simp
        omega)
      have hcv : ∀ W : World, W.heap[wr.heap.size]? = some (.cells #[.int .u8 (48 + (q : Int))] 5 (0, 0)) → (convert 59 9 (.slice (some ⟨wr.heap.size, 0, none⟩) 1 1)).run Try.prog W = .ok (.string (strN [48 + q])) W := fun W hW => by
        have := run_convert_bytes_arg (P := Try.prog) W 59 5 (by kernel_rfl) (by kernel_rfl) wr.heap.size 0 1 1 [48 + (q : Int)] rfl (fun i hi => by
          obtain rfl : i = 0 := by omega
          rw [cell_of_row W _ _ _ _ (0, 0) hW]
          rfl) 9 (by kernel_rfl)
        rw [this]
        congr 2
      have hcv1 := hcv (wr.alloc (.cells #[.int .u8 (48 + (q : Int))] 5)) (heap_alloc_new wr _)
      have HB := hid (BW.out.alloc BW.out.size (.cells #[.int .u8 (48 + (q : Int))] 5))
      clear hc hd hcv
      have hs1 : (strN (sof (l.take kk))).size + (strN [48 + q]).size ≤ 9223372036854775807 := by
        rw [strN_size, strN_size]
        unfold sof
        rw [List.length_map, List.length_take]
        show min kk l.length + 1 ≤ _
        omega
      have hs2 : ((strN (sof (l.take kk))).size : Int) + ((strN [48 + q]).size : Int) ≤ 9223372036854775807 := by omega
      generalize strN [48 + q] = sq at hx hcv1 hs1 hs2
      generalize strN (sof (l.take kk)) = sp at hx hs1 hs2 ⊢
      go_wp2_with (simp only [hcv1])
      go_roundg (n - (kk + 1))
      case measure => omega
      case rel => exact ⟨kk + 1, by omega, by omega, by go_num, by rw [hx.out], HB⟩
    · have hltz : ¬ (kk : Int) < (n : Int) := by omega
      obtain rfl : kk = n := by omega
      go_wp2
      go_ret
      have ht : l.take kk = l := List.take_of_length_le (by rw [HL.out]; exact Nat.le_refl _)
      refine ⟨?_, BW⟩
      show Ending.returned (.string (strN (sof (l.take kk)))) = _
      rw [ht]
end Go.Proofs.Ytdemhghflanncaa
