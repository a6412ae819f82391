/- Ether, the program: together, put. -/
import Derived.Test.YtbpijlghdpflgaaDoorYpb
namespace Go.Proofs.YtbpijlghdpflgaaDoor.Eth
open Go.RowKit Go.Shelf Go.Lib

/-- The cells of slices. -/
def cellsS (vs : List (Option Addr × Nat × Nat)) : List Value := vs.map fun v => .slice v.1 v.2.1 v.2.2
theorem cellsS_get {vs : List (Option Addr × Nat × Nat)} {j : Nat} {v : Option Addr × Nat × Nat} (h : vs[j]? = some v) : (cellsS vs)[j]? = some (.slice v.1 v.2.1 v.2.2) := by
  unfold cellsS
  rw [List.getElem?_map, h]
  rfl
/-- Lists of copies, as they lie. -/
def Lss (w : World) (B : Nat) (vs : List (Option Addr × Nat × Nat)) (ls : List (List Cp)) : Prop := vs.length = ls.length ∧ ∀ (j : Nat) (v : Option Addr × Nat × Nat) (l : List Cp), vs[j]? = some v → ls[j]? = some l → Cls w B v.1 v.2.1 v.2.2 l
theorem Lss.mono {w : World} {B C : Nat} {vs : List (Option Addr × Nat × Nat)} {ls : List (List Cp)} (h : Lss w B vs ls) (hb : B ≤ C) : Lss w C vs ls := ⟨h.1, fun j v l h1 h2 => (h.2 j v l h1 h2).mono hb⟩
theorem Lss.one {w : World} {B n c : Nat} {A : Option Addr} {l : List Cp} (h : Cls w B A n c l) : Lss w B [(A, n, c)] [l] := ⟨rfl, fun j v m h1 h2 => by
  cases j with
  | zero => simp at h1 h2; subst h1 h2; exact h
  | succ j => simp at h1⟩
theorem Lss.cons {w : World} {B n c : Nat} {A : Option Addr} {l : List Cp} {vs : List (Option Addr × Nat × Nat)} {ls : List (List Cp)} (h : Cls w B A n c l) (k : Lss w B vs ls) : Lss w B ((A, n, c) :: vs) (l :: ls) := ⟨by rw [List.length_cons, List.length_cons, k.1], fun j v m h1 h2 => by
  cases j with
  | zero => simp at h1 h2; subst h1 h2; exact h
  | succ j => exact k.2 j v m (by simpa using h1) (by simpa using h2)⟩
theorem flat_take {ls : List (List Cp)} {k : Nat} {l : List Cp} (h : ls[k]? = some l) : (ls.take (k + 1)).flatten = (ls.take k).flatten ++ l := by
  rw [List.take_add_one, h, List.flatten_append]
  simp
theorem flat_len {ls : List (List Cp)} {k : Nat} {l : List Cp} (h : ls[k]? = some l) : (ls.take k).flatten.length + l.length ≤ ls.flatten.length := by
  have h1 : ls.flatten = (ls.take k).flatten ++ (ls.drop k).flatten := by rw [← List.flatten_append, List.take_append_drop]
  obtain ⟨hk, hx⟩ := List.getElem?_eq_some_iff.1 h
  rw [h1, List.length_append, List.drop_eq_getElem_cons hk, List.flatten_cons, List.length_append, hx]
  omega

/-- What together leaves. -/
def TgR (w : World) (l : List Cp) (e : Ending) (w' : World) : Prop := ∃ A' n' c' rs, e = .returned (.slice A' n' c') ∧ Hid (Cow w' (fun q => w.heap.size ≤ q) A' n' c' rs l ∧ Below w.heap.size w w' ∧ n' = l.length)
set_option maxHeartbeats 6400000 in
set_option maxRecDepth 100000 in
theorem together_any {w : World} {B m cc g off : Nat} {vs : List (Option Addr × Nat × Nat)} {ls : List (List Cp)} (hr : Gs w B (some ⟨g, off, none⟩) m cc 1 (cellsS vs)) (hl : Lss w B vs ls) (hB : B ≤ w.heap.size) (hn : ls.flatten.length ≤ 1000) (hT : ∀ l ∈ ls, ∀ p ∈ l, p.2.2.1.length ≤ 50000) :
    Calls Tryd.prog 26 #[.slice (some ⟨g, off, none⟩) m cc] w (TgR w ls.flatten) := by
  have R := hid (hr.mono hB)
  have L := hid (hl.mono hB)
  have hcap := hr.cap
  have hmax := hr.max
  have HM := hid (show vs.length = m by have := hr.len; unfold cellsS at this; rw [List.length_map] at this; omega)
  have HL := hid (show ls.length = m by rw [← hl.1]; exact HM.out)
  have HT := hid hT
  have HN := hid hn
  clear hr hl hB hT hn
  go_enter Tryd.func26, Tryd.ntmps26
  go_wp2
  go_loopg [3, 10] m (fun gg s3 s10 wr => ∃ (kk : Nat) (v : Value) (rs : List Cr), kk ≤ m ∧ m - kk ≤ gg ∧ s10 = .int .i64 kk ∧ v = s3 ∧ Hid (TwI w w.heap.size v rs (ls.take kk).flatten wr))
  case atStart => exact ⟨0, _, [], Nat.zero_le _, by omega, rfl, rfl, hid ⟨Gw.nil _ _ _ _, Pair.nil _ _, by simp, Below.refl _ _⟩⟩
  case round =>
    obtain ⟨kk, v, rs, hkk, hg, rfl, rfl, HI⟩ := hrel
    by_cases hlt : kk < m
    · have hltz : (kk : Int) < (m : Int) := by omega
      obtain ⟨⟨A', n', c'⟩, hv⟩ : ∃ u, vs[kk]? = some u := ⟨_, List.getElem?_eq_getElem (by rw [HM.out]; exact hlt)⟩
      obtain ⟨l, hl⟩ : ∃ u, ls[kk]? = some u := ⟨_, List.getElem?_eq_getElem (by rw [HL.out]; exact hlt)⟩
      have hC := L.out.2 kk _ _ hv hl
      change Cls w w.heap.size A' n' c' l at hC
      have HCl := hid hC
      have hcap2 := hC.cap
      have hmax2 := hC.max
      have HLN := hid hC.len
      have HFL := hid (flat_len hl)
      have HFT := hid (flat_take hl)
      have HTl := hid (HT.out l (List.mem_of_getElem? hl))
      obtain ⟨b0, off0, e0, hb0, hc0⟩ := (R.out.below HI.out.bel).at_ (by omega)
      obtain ⟨rfl, rfl⟩ : g = b0 ∧ off = off0 := by injection e0 with e0; injection e0 with e1 e2; exact ⟨e1, e2⟩
      have k0 := hc0 kk _ (cellsS_get hv)
      change wr.cell? ⟨g, off + kk, none⟩ = some (.slice A' n' c') at k0
      clear hv hl hC e0 hc0
      have I0 := HI
      go_upto_block 0 with fail
      go_loopg [3, 16] n' (fun gg s3 s16 wr => ∃ (j : Nat) (v : Value) (rs : List Cr), j ≤ n' ∧ n' - j ≤ gg ∧ s16 = .int .i64 j ∧ v = s3 ∧ Hid (TwI w w.heap.size v rs ((ls.take kk).flatten ++ l.take j) wr))
      case atStart => exact ⟨0, _, rs, Nat.zero_le _, by omega, rfl, rfl, hid (by rw [List.take_zero, List.append_nil]; exact I0.out)⟩
      case round =>
        clear k0 I0 HI
        obtain ⟨j, v, rs, hj, hg2, rfl, rfl, HI⟩ := hrel
        by_cases hlt2 : j < n'
        · have hltz2 : (j : Int) < (n' : Int) := by omega
          obtain ⟨b, o, x, y, A2, n2, c2, t, s, rfl, hb, hp, c0, c1, c2', c3, ht, hf⟩ := (HCl.out.below HI.out.bel).get hlt2
          have HP := hid hp
          have hn2 : n2 ≤ 50000 := by have := HTl.out _ (List.mem_of_getElem? hp); simp only at this; have := ht.blen; omega
          obtain ⟨M, hM⟩ : ∃ M, M = (ls.take kk).flatten ++ l.take j := ⟨_, rfl⟩
          rw [← hM] at HI
          have hML : M.length ≤ 1000 := by
            have h1 := HFL.out
            have h2 := HN.out
            rw [hM, List.length_append, List.length_take]
            omega
          have HMe := hid hM
          have hsz := HI.out.bel.size
          have CT := hid (fun (X : World) (hX : Below wr.heap.size wr X) => tw_any (w := X) (x := x) (y := y) (s := s) (ht.below (hX.mono hsz)) hf (Nat.le_trans hsz hX.size) hn2)
          have HAl := hid (fun (o : Obj) => (Below.refl wr.heap.size wr).alloc (Nat.le_refl _) o)
          clear hM hp ht hf
          go_wp2_with (first
            | (go_at_call 39
               refine (CT.out _ (HAl.out _)).mono ?_
               rintro e w3 ⟨A3, c3, rfl, h3⟩
               have B3 := hid (gbelow_on (HAl.out (.cells #[.int .i64 x, .int .i64 y, .slice A2 n2 c2, .bool s] 28)) (Nat.le_refl _) h3.out.2.2)
               have T3 := hid (h3.out.1.mono (T := fun q => w.heap.size ≤ q) (fun q (hq : (wr.alloc (.cells #[.int .i64 x, .int .i64 y, .slice A2 n2 c2, .bool s] 28)).heap.size ≤ q) => Nat.le_trans (Nat.le_trans hsz (HAl.out _).size) hq))
               have C3 := hid h3.out.2.1
               have b4 := hid ((Below.refl w3.heap.size w3).alloc (Nat.le_refl _) (.cells #[.int .i64 x, .int .i64 y, .slice A3 n2 c3, .bool s] 28))
               have I4 := hid (HI.out.kept (gbelow_on B3.out (Nat.le_refl _) b4.out) (gbelow_on (gbelow_on HI.out.bel (Nat.le_refl _) B3.out) (Nat.le_refl _) b4.out))
               have G4 := hid (Gs.new (cs := cellsC [(x, y, (A3, n2, c3), s)]) (k := 4) (n := 1) (c := 1) (B := w3.heap.size + 1) (heap_alloc_new w3 (.cells #[.int .i64 x, .int .i64 y, .slice A3 n2 c3, .bool s] 28)) (Nat.lt_succ_self _) rfl (Nat.le_refl _) (by omega))
               clear h3)
            | (at_builtin
               refine list_appC (v := v) (cs := cellsC rs) (rs := [(x, y, (A3, n2, c3), s)]) rfl _ _ rfl rfl rfl I4.out.row G4.out (by omega) I4.out.bel.size ?_
               intro v5 w5 T5
               have K8 := hid (Keep8.of_below (S := fun q => w.heap.size ≤ q) b4.out)
               have I5 := hid (I4.out.snoc I4.out.bel.size T5.out (T3.out.kept K8.out) (C3.out.on (Nat.le_refl _) b4.out)))
            | fail)
          go_roundg (n' - (j + 1))
          case measure => omega
          case rel => exact ⟨j + 1, v5, _, by omega, by omega, by go_num, rfl, hid (by rw [take_cp HP.out, ← List.append_assoc, ← HMe.out]; exact I5.out)⟩
        · have hltz2 : ¬ (j : Int) < (n' : Int) := by omega
          obtain rfl : j = n' := by omega
          have I6 := hid (show TwI w w.heap.size v rs (ls.take (kk + 1)).flatten wr from by
            rw [HFT.out]
            have := HI.out
            rwa [List.take_of_length_le (l := l) (by rw [HLN.out]; exact Nat.le_refl _)] at this)
          go_wp2
          go_roundg (m - (kk + 1))
          case measure => omega
          case rel => exact ⟨kk + 1, v, rs, by omega, by omega, by go_num, rfl, I6⟩
    · have hltz : ¬ (kk : Int) < (m : Int) := by omega
      obtain rfl : kk = m := by omega
      obtain ⟨h1, h2, h3, h4⟩ := HI.out
      rw [List.take_of_length_le (by rw [HL.out]; exact Nat.le_refl _)] at h1 h2
      obtain ⟨N, hN⟩ : ∃ N, N = ls.flatten.length := ⟨_, rfl⟩
      rw [← hN] at h1
      have HNe := hid hN
      clear hN
      obtain ⟨A2, c2, rfl, g2, m2, a2, o2⟩ := h1.form
      have R := hid (show Cow wr (fun q => w.heap.size ≤ q) A2 N c2 rs ls.flatten from ⟨g2, h2, h3, fun h0 => by
        rcases h1.own.2 with ⟨e, e0⟩ | ⟨g, cap, cur, e, hB, hh, hm, _, hs, _⟩
        · omega
        · injection e with e1 e2 e3
          subst e1 e3
          exact ⟨g, 0, cur, rfl, hB, hh, by omega⟩⟩)
      have BW := hid h4
      clear h1 h2 h3 h4 g2 m2 a2 o2
      go_wp2
      go_ret
      exact ⟨A2, N, c2, rs, rfl, hid ⟨R.out, BW.out, HNe.out⟩⟩
end Go.Proofs.YtbpijlghdpflgaaDoor.Eth
