/- Ether: what the laws ask of the program, and their helpers one and numbers. -/
import Derived.Test.YtbpijlghdpflgaaDoorYls
namespace Go.Proofs.YtbpijlghdpflgaaDoor.Eth
open Go.RowKit Go.Shelf Go.Lib

/-- What Take leaves: the copy that was taken shares no block with the list. -/
def TakO (w : World) (q : Int) (l : List Cp) (p : Cp) (e : Ending) (w' : World) : Prop :=
  ∃ (A' : Option Addr) (n' c' : Nat) (rs : List Cr) (x y : Int) (D : Option Addr) (m d : Nat) (s : Bool) (S : Nat → Prop), e = .returned (.tuple #[.slice A' n' c', .agg #[.int .i64 x, .int .i64 y, .slice D m d, .bool s], .int .i64 q]) ∧
    Hid (Cow w' S A' n' c' rs l ∧ (∀ k, S k → w.heap.size ≤ k) ∧ Tow w' (fun k => w.heap.size ≤ k ∧ ¬ S k) (x, y, (D, m, d), s) ∧ Crd w' w'.heap.size (x, y, (D, m, d), s) p ∧ Below w.heap.size w w' ∧ n' = l.length)
def CheckOk : Prop := ∀ (w : World) (B n c : Nat) (A : Option Addr) (l : List Cp), Cls w B A n c l → B ≤ w.heap.size → Calls Tryd.prog 18 #[.slice A n c] w fun e w' => e = .returned (.int .i64 (echk l)) ∧ Hid (Below w.heap.size w w')
def SameOk : Prop := ∀ (w : World) (B C n c m d : Nat) (A D : Option Addr) (l r : List Cp), Cls w B A n c l → Cls w C D m d r → B ≤ w.heap.size → C ≤ w.heap.size → Calls Tryd.prog 20 #[.slice A n c, .slice D m d] w fun e w' => e = .returned (.bool (decide (l = r))) ∧ Hid (Below w.heap.size w w')
def SendOk : Prop := ∀ (w : World) (B C n c m d : Nat) (A D : Option Addr) (l : List Cp) (x y : Int) (t : List Nat) (s : Bool), Cls w B A n c l → B ≤ w.heap.size → Gs w C D m d 1 (cellsB t) → (∀ b ∈ t, b < 256) → C ≤ w.heap.size →
  Calls Tryd.prog 7 #[.slice A n c, .agg #[.int .i64 x, .int .i64 y, .slice D m d, .bool s]] w (LstR w (snE l (x, y, t, s)) (snL l (x, y, t, s)))
def TakeOk : Prop := ∀ (w : World) (B n c : Nat) (A : Option Addr) (l : List Cp) (i : Int), Cls w B A n c l → B ≤ w.heap.size → Calls Tryd.prog 11 #[.slice A n c, .int .i64 i] w (TakO w (tkE l i) (tkL l i) (tkC l i))
def DoubleOk : Prop := ∀ (w : World) (B n c : Nat) (A : Option Addr) (l : List Cp) (i : Int), Cls w B A n c l → B ≤ w.heap.size → Calls Tryd.prog 9 #[.slice A n c, .int .i64 i] w (LstR w (dbE l i) (dbL l i))
/-- What the program's Spoil asks of the world besides, and what keeps it. -/
def Stays (T : World → Prop) : Prop := ∀ w w', T w → Below w.heap.size w w' → T w'
def SpoilOk (T : World → Prop) : Prop := ∀ (w : World) (B n c : Nat) (A : Option Addr) (l : List Cp) (i a : Int) (m : Nat), Cls w B A n c l → B ≤ w.heap.size → m < 4294967296 → T w → Calls Tryd.prog 10 #[.slice A n c, .int .i64 i, .int .i64 a, .int .u32 (m : Int)] w (LstR w (spE l i a m) (spL l i a m))
/-- A copy of a Number, as the laws make it. -/
def oneC (x : Int) : Cp := (x, 1, [1, 2], false)
def OneR (w : World) (x : Int) (e : Ending) (w' : World) : Prop := ∃ (D : Option Addr) (d : Nat), e = .returned (.agg #[.int .i64 x, .int .i64 1, .slice D 2 d, .bool false]) ∧ Hid (Gs w' w'.heap.size D 2 d 1 (cellsB [1, 2]) ∧ Below w.heap.size w w')
set_option maxHeartbeats 1600000 in
theorem one_any (x : Int) (w : World) : Calls Tryd.prog 8 #[.int .i64 x] w (OneR w x) := by
  go_enter Tryd.func8, Tryd.ntmps8
  go_wp2
  refine ret_copy1 (g := w.heap.size) (x := x) (y := 1) (A := some ⟨w.heap.size + 1, 0, none⟩) (n := 2) (c := 2) (s := false) rfl rfl rfl ?_ ?_
  · exact (heap_two w _ _).1
  · have h2 := (heap_two w (.cells #[.int .i64 x, .int .i64 1, .slice (some ⟨w.heap.size + 1, 0, none⟩) 2 2, .bool false] 28) (.cells #[.int .u8 1, .int .u8 2] 5)).2
    exact ⟨_, 2, rfl, hid ⟨Gs.new (cs := cellsB [1, 2]) (k := 1) h2 (lt_of_heap h2) rfl (Nat.le_refl _) (by omega), below_two w _ _⟩⟩
/-- A row of one copy. -/
theorem cls_one {w : World} {x y : Int} {D : Option Addr} {m d : Nat} {t : List Nat} {s : Bool} (h : Gs w w.heap.size D m d 1 (cellsB t)) (hf : ∀ b ∈ t, b < 256) :
    Cls (w.alloc (.cells #[.int .i64 x, .int .i64 y, .slice D m d, .bool s] 28)) (w.alloc (.cells #[.int .i64 x, .int .i64 y, .slice D m d, .bool s] 28)).heap.size (some ⟨w.heap.size, 0, none⟩) 1 1 [(x, y, t, s)] := by
  have hb : Below w.heap.size w (w.alloc (.cells #[.int .i64 x, .int .i64 y, .slice D m d, .bool s] 28)) := (Below.refl _ w).alloc (Nat.le_refl _) _
  have hr := heap_alloc_new w (.cells #[.int .i64 x, .int .i64 y, .slice D m d, .bool s] 28)
  refine ⟨[(x, y, (D, m, d), s)], Gs.new (cs := cellsC [(x, y, (D, m, d), s)]) (k := 4) hr (lt_of_heap hr) rfl (Nat.le_refl _) (by omega), ?_⟩
  exact (Pair.nil _ _).snoc (Crd.in_ (h.on (Nat.le_refl _) hb) hf)
theorem fit_one : ∀ b ∈ ([1, 2] : List Nat), b < 256 := by decide

set_option maxHeartbeats 3200000 in
set_option maxRecDepth 100000 in
theorem numbers_any {w : World} {B C n c m d : Nat} {A D : Option Addr} {l : List Cp} {r : List Int} (h : Cls w B A n c l) (k : Gs w C D m d 1 (cellsI r)) (hB : B ≤ w.heap.size) (hC : C ≤ w.heap.size) (he : l.map (·.1) = r) :
    Calls Tryd.prog 27 #[.slice A n c, .slice D m d] w fun e w' => e = .returned (.bool true) ∧ Hid (Below w.heap.size w w') := by
  have H := hid (h.mono hB)
  have K := hid (k.mono hC)
  have hnm : n = m := by rw [← h.len, ← k.ilen, ← he, List.length_map]
  subst hnm
  have hm := h.max
  have hcap := h.cap
  have hcap2 := k.cap
  have HE := hid he
  clear h k he
  go_enter Tryd.func27, Tryd.ntmps27
  go_wp2
  go_loopg [5] n (fun gg s5 wr => ∃ kk : Nat, kk ≤ n ∧ n - kk ≤ gg ∧ s5 = .int .i64 kk ∧ Hid (Below w.heap.size w wr))
  case atStart => exact ⟨0, Nat.zero_le _, by omega, rfl, hid (Below.refl _ w)⟩
  case round =>
    obtain ⟨kk, hkk, hg, rfl, BW⟩ := hrel
    by_cases hlt : kk < n
    · have hltz : (kk : Int) < (n : Int) := by omega
      have K2 := K.out.below BW.out
      obtain ⟨b, off, x, y, A', n', c', t, s, rfl, hb, hp, c0, c1, c2, c3, ht, hf⟩ := (H.out.below BW.out).get hlt
      obtain ⟨z, hz⟩ := K2.iget hlt
      obtain ⟨b2, off2, rfl, _, hc2⟩ := K2.iat (by omega)
      have d0 := hc2 kk z hz
      have hxz : z = x := by
        have h1 := hz
        rw [← HE.out, List.getElem?_map, hp] at h1
        simpa using h1.symm
      subst hxz
      clear hp hz hc2 K2 ht hf c1 c2 c3
      have mixed : Tryd.prog.follows .mixedOrders = true := by kernel_rfl
      go_wp2_with fail
      go_quiet_o (fail)
      go_wp2
      go_roundg (n - (kk + 1))
      case measure => omega
      case rel => exact ⟨kk + 1, by omega, by omega, by go_num, hid (below_drewN BW.out _)⟩
    · have hltz : ¬ (kk : Int) < (n : Int) := by omega
      obtain rfl : kk = n := by omega
      go_wp2
      go_ret
      exact ⟨rfl, BW⟩
end Go.Proofs.YtbpijlghdpflgaaDoor.Eth
