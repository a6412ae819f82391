/- Bytes as strings; the chapter's examples. -/
import Derived.Test.YtmaggpigodkhhaaFref
import Derived.Laws.BytesArg
import Derived.Lib.SlBytesConst
namespace Go.Proofs.Ytmaggpigodkhhaa
open Go.RowKit

/-- Bytes as a string. -/
def str (xs : List Nat) : ByteArray := ⟨(xs.map fun x => UInt8.ofNat x).toArray⟩
theorem str_inj {xs ys : List Nat} (hx : ∀ x ∈ xs, x < 256) (hy : ∀ x ∈ ys, x < 256) (h : str xs = str ys) : xs = ys := by
  have h1 : xs.map (fun x => UInt8.ofNat x) = ys.map (fun x => UInt8.ofNat x) := by
    have := congrArg (fun b : ByteArray => b.data.toList) h
    simpa [str] using this
  have h2 := congrArg (List.map UInt8.toNat) h1
  rw [List.map_map, List.map_map] at h2
  have e : ∀ zs : List Nat, (∀ x ∈ zs, x < 256) → zs.map (UInt8.toNat ∘ fun x => UInt8.ofNat x) = zs := by
    intro zs hz
    rw [List.map_congr_left (g := id) (fun x hx => by show (UInt8.ofNat x).toNat = x; simp; exact hz x hx), List.map_id]
  rwa [e xs hx, e ys hy] at h2
theorem str_beq {xs ys : List Nat} (hx : ∀ x ∈ xs, x < 256) (hy : ∀ x ∈ ys, x < 256) : (str xs == str ys) = decide (xs = ys) := by
  show ((str xs).data == (str ys).data) = _
  by_cases h : xs = ys
  · subst h
    rw [decide_eq_true rfl]
    exact beq_self_eq_true _
  · rw [decide_eq_false h]
    refine beq_eq_false_iff_ne.2 (fun h2 => h (str_inj hx hy ?_))
    show ByteArray.mk (str xs).data = ByteArray.mk (str ys).data
    rw [h2]

theorem conv_any {w : World} {B n c : Nat} {A : Option Addr} {xs : List Nat} (h : By w B A n c xs) : (convert 22 9 (.slice A n c)).run Try.prog w = .ok (.string (str xs)) w := by
  cases A with
  | none =>
    obtain ⟨rfl, rfl⟩ := h.nil rfl
    obtain rfl : xs = [] := List.length_eq_zero_iff.1 h.len
    exact run_convert_bytes_nil (P := Try.prog) w 22 5 (by kernel_rfl) (by kernel_rfl) 0 0 9 (by kernel_rfl)
  | some p =>
    rcases Nat.eq_zero_or_pos n with h0 | h0
    · subst h0
      obtain rfl : xs = [] := List.length_eq_zero_iff.1 h.len
      obtain ⟨b, off, far⟩ := p
      rw [run_convert_bytes_string w 22 9 5 _ 0 c (by kernel_rfl) (by kernel_rfl) (by kernel_rfl), run_bytesToString (P := Try.prog) w _ 0 c [] (by
        have := run_loadCells_list (P := Try.prog) w ⟨b, off, far⟩ [] (fun j v hj => by simp at hj)
        simpa using this)]
      rfl
    · obtain ⟨b, off, e, _, hc⟩ := h.at_ h0
      injection e with e
      subst e
      have := run_convert_bytes_arg (P := Try.prog) w 22 5 (by kernel_rfl) (by kernel_rfl) b off n c (xs.map fun x : Nat => (x : Int)) (by rw [List.length_map]; exact h.len) (fun i hi => by
        have hx : xs[i]? = some (xs[i]'(by rw [h.len]; exact hi)) := List.getElem?_eq_getElem _
        rw [hc i _ hx]
        simp [List.getD_eq_getElem?_getD, hx]) 9 (by kernel_rfl)
      rw [this]
      congr 2
      simp [strOfNums, str]

theorem By.nul (w : World) (B : Nat) : By w B none 0 0 [] := ⟨rfl, Nat.le_refl _, by omega, by simp, fun _ => ⟨rfl, rfl⟩, fun h => absurd h (by omega)⟩

theorem crc_nine : crc [49, 50, 51, 52, 53, 54, 55, 56, 57] = 3421780262 := by decide +kernel

/-- Bytes in a new block, whatever its mark. -/
theorem By.newf (w : World) (xs : List Nat) (fr : Nat × Nat) (hlt : ∀ x ∈ xs, x < 256) (hmax : xs.length ≤ 140737488355328) : By (w.alloc (.cells (vals xs).toArray 5 fr)) (w.heap.size + 1) (some ⟨w.heap.size, 0, none⟩) xs.length xs.length xs :=
  ⟨rfl, Nat.le_refl _, hmax, hlt, fun h => (by cases h), fun _ => ⟨w.heap.size, 0, rfl, Nat.lt_succ_self _, fun j x hj => by
    rw [Nat.zero_add, cell_of_row _ w.heap.size j _ 5 fr (heap_alloc_new w _)]
    rw [List.getElem?_toArray]
    exact vals_at hj⟩⟩

end Go.Proofs.Ytmaggpigodkhhaa
