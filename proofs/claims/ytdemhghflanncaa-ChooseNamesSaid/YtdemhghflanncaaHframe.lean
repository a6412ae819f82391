/- How a list of numbers that came in is read. -/
import Derived.Test.YtdemhghflanncaaCframe
import Derived.Test.YtdemhghflanncaaHlist
namespace Go.Proofs.Ytdemhghflanncaa
open Go.ChangeShapes Go.WideShapes Go.ChangeAt Go.RowKit Go.Joins Go.Deep

theorem bytes_u64 : Try.prog.bytesOf 30 = 8 := by kernel_rfl
theorem wfU64 {n : Int} (h : (Lit.int .u64 n).wf = true) : 0 ≤ n ∧ n < 18446744073709551616 := by
  simp [Lit.wf, IntKind.min, IntKind.max, IntKind.signed, IntKind.bits] at h
  omega
theorem wf_u64 {n : Int} (h : (Lit.int .u64 n).wf = true) : 0 ≤ n ∧ n ≤ 18446744073709551615 := by
  have := wfU64 h
  omega
theorem us_in {H : Type} {enc : TypeId × Value → H} {W : World} {A : Option Addr} {n c : Nat} {d : DataW H} {p : List MemPlace}
    (h : DataW.Trod enc Try.prog W 0 (fun _ => true) true 34 (.slice A n c) d p) (hw : ∀ l1 l2, d = .slice l1 l2 → (l1.length + l2.length) * Try.prog.bytesOf 30 ≤ reachBytes) :
    ∃ l, Us W W.heap.size A n c l := by
  obtain ⟨fuel, hf⟩ := h
  rcases open_ints Try.underlying34 Try.underlying30 (by kernel_rfl) hf with ⟨hcs, _⟩ | ⟨x, l, c', zs, hcs, _, hl, hm, hz, hx, hcell, hwz⟩
  · simp [Value.cells] at hcs
    obtain ⟨rfl, rfl, rfl⟩ := hcs
    exact ⟨[], Us.nil' W _⟩
  · simp [Value.cells] at hcs
    obtain ⟨rfl, rfl, rfl⟩ := hcs
    simp only [Prod.mk.injEq] at hx
    have hr := hw _ _ hx.1
    rw [bytes_u64] at hr
    have hzc : zs.length = c := by simpa using hz
    simp only [lits, List.length_map, List.length_take, List.length_drop, reachBytes] at hr
    have hlen : ((zs.take n).map Int.toNat).length = n := by rw [List.length_map, List.length_take]; omega
    refine ⟨(zs.take n).map Int.toNat, hlen, hl, by omega, fun e => (by cases e), fun y hy => ?_, fun h0 => ?_⟩
    · obtain ⟨z, hz1, rfl⟩ := List.mem_map.1 hy
      have := wfU64 (hwz z (List.mem_of_mem_take hz1))
      omega
    · obtain ⟨b, off, spot⟩ := x
      have c0 := hcell 0 (by omega)
      have hspot : spot = none := by simpa [Addr.add] using World.cell?_spot c0
      subst hspot
      rw [Addr.add_lit] at c0
      refine ⟨b, off, rfl, block_lt_of_cell c0, fun j y hj => ?_⟩
      have hjl : j < n := by
        have := (List.getElem?_eq_some_iff.1 hj).1
        omega
      have hzj : zs[j]? = some (zs[j]'(by omega)) := List.getElem?_eq_getElem _
      have h1 := hcell j (by omega)
      rw [Addr.add_lit] at h1
      have h2 : zs.getD j 0 = zs[j]'(by omega) := by simp [List.getD_eq_getElem?_getD, hzj]
      rw [h2] at h1
      have h3 := wfU64 (hwz (zs[j]'(by omega)) (List.getElem_mem _))
      have h4 : y = (zs[j]'(by omega)).toNat := by
        rw [List.getElem?_map, List.getElem?_take, if_pos hjl, hzj] at hj
        simpa using hj.symm
      rw [h1, h4]
      congr 2
      omega
end Go.Proofs.Ytdemhghflanncaa
