/- Ether: what the laws ask of the program, and their helpers one and numbers. -/
import Derived.Test.YtbpijlghdpflgaaYls
namespace Go.Proofs.Ytbpijlghdpflgaa.Eth
open Go.RowKit Go.Shelf Go.Lib

/-- What Take leaves: the copy that was taken shares no block with the list. -/
def TakO (w : World) (q : Int) (l : List Cp) (p : Cp) (e : Ending) (w' : World) : Prop :=
  ∃ (A' : Option Addr) (n' c' : Nat) (rs : List Cr) (x y : Int) (D : Option Addr) (m d : Nat) (s : Bool) (S : Nat → Prop), e = .returned (.tuple #[.slice A' n' c', .agg #[.int .i64 x, .int .i64 y, .slice D m d, .bool s], .int .i64 q]) ∧
    Hid (Cow w' S A' n' c' rs l ∧ (∀ k, S k → w.heap.size ≤ k) ∧ Tow w' (fun k => w.heap.size ≤ k ∧ ¬ S k) (x, y, (D, m, d), s) ∧ Crd w' w'.heap.size (x, y, (D, m, d), s) p ∧ Below w.heap.size w w' ∧ n' = l.length)
def CheckOk : Prop := ∀ (w : World) (B n c : Nat) (A : Option Addr) (l : List Cp), Cls w B A n c l → B ≤ w.heap.size → Calls Try.prog 17 #[.slice A n c] w fun e w' => e = .returned (.int .i64 (echk l)) ∧ Hid (Below w.heap.size w w')
def SameOk : Prop := ∀ (w : World) (B C n c m d : Nat) (A D : Option Addr) (l r : List Cp), Cls w B A n c l → Cls w C D m d r → B ≤ w.heap.size → C ≤ w.heap.size → Calls Try.prog 19 #[.slice A n c, .slice D m d] w fun e w' => e = .returned (.bool (decide (l = r))) ∧ Hid (Below w.heap.size w w')
def TwinOk : Prop := ∀ (w : World) (B n c : Nat) (A : Option Addr) (l : List Cp), Cls w B A n c l → B ≤ w.heap.size → n ≤ 1000 → (∀ p ∈ l, p.2.2.1.length ≤ 50000) → Calls Try.prog 14 #[.slice A n c] w (TwinR w n l)
def SendOk : Prop := ∀ (w : World) (B C n c m d : Nat) (A D : Option Addr) (l : List Cp) (x y : Int) (t : List Nat) (s : Bool), Cls w B A n c l → B ≤ w.heap.size → Gs w C D m d 1 (cellsB t) → (∀ b ∈ t, b < 256) → C ≤ w.heap.size →
  Calls Try.prog 6 #[.slice A n c, .agg #[.int .i64 x, .int .i64 y, .slice D m d, .bool s]] w (LstR w (snE l (x, y, t, s)) (snL l (x, y, t, s)))
def TakeOk : Prop := ∀ (w : World) (B n c : Nat) (A : Option Addr) (l : List Cp) (i : Int), Cls w B A n c l → B ≤ w.heap.size → Calls Try.prog 8 #[.slice A n c, .int .i64 i] w (TakO w (tkE l i) (tkL l i) (tkC l i))
def DoubleOk : Prop := ∀ (w : World) (B n c : Nat) (A : Option Addr) (l : List Cp) (i : Int), Cls w B A n c l → B ≤ w.heap.size → Calls Try.prog 10 #[.slice A n c, .int .i64 i] w (LstR w (dbE l i) (dbL l i))
/-- What the program's Spoil asks of the world besides, and what keeps it. -/
def Stays (T : World → Prop) : Prop := ∀ w w', T w → Below w.heap.size w w' → T w'
def ManyOk : Prop := ∀ (w : World) (B n c : Nat) (A : Option Addr) (l : List Cp) (x : Int), Cls w B A n c l → B ≤ w.heap.size → Calls Try.prog 12 #[.slice A n c, .int .i64 x] w fun e w' => e = .returned (.tuple #[.int .i64 (mnA l x : Nat), .int .i64 (echk l)]) ∧ Hid (Below w.heap.size w w')

/-- A copy of a Number, as the laws make it. -/
def oneC (x : Int) : Cp := (x, 1, [1, 2], false)
def OneR (w : World) (x : Int) (e : Ending) (w' : World) : Prop := ∃ (D : Option Addr) (d : Nat), e = .returned (.agg #[.int .i64 x, .int .i64 1, .slice D 2 d, .bool false]) ∧ Hid (Gs w' w'.heap.size D 2 d 1 (cellsB [1, 2]) ∧ Below w.heap.size w w')
/-- A row of one copy. -/
theorem cls_one {w : World} {x y : Int} {D : Option Addr} {m d : Nat} {t : List Nat} {s : Bool} (h : Gs w w.heap.size D m d 1 (cellsB t)) (hf : ∀ b ∈ t, b < 256) :
    Cls (w.alloc (.cells #[.int .i64 x, .int .i64 y, .slice D m d, .bool s] 25)) (w.alloc (.cells #[.int .i64 x, .int .i64 y, .slice D m d, .bool s] 25)).heap.size (some ⟨w.heap.size, 0, none⟩) 1 1 [(x, y, t, s)] := by
  have hb : Below w.heap.size w (w.alloc (.cells #[.int .i64 x, .int .i64 y, .slice D m d, .bool s] 25)) := (Below.refl _ w).alloc (Nat.le_refl _) _
  have hr := heap_alloc_new w (.cells #[.int .i64 x, .int .i64 y, .slice D m d, .bool s] 25)
  refine ⟨[(x, y, (D, m, d), s)], Gs.new (cs := cellsC [(x, y, (D, m, d), s)]) (k := 4) hr (lt_of_heap hr) rfl (Nat.le_refl _) (by omega), ?_⟩
  exact (Pair.nil _ _).snoc (Crd.in_ (h.on (Nat.le_refl _) hb) hf)
theorem fit_one : ∀ b ∈ ([1, 2] : List Nat), b < 256 := by decide

end Go.Proofs.Ytbpijlghdpflgaa.Eth
