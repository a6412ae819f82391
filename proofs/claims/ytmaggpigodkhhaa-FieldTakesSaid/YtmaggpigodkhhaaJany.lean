/- Package field: what is put, in one contract each; what was put is told, and what is told was put so. -/
import Derived.Test.YtmaggpigodkhhaaJalive
namespace Go.Proofs.Ytmaggpigodkhhaa
open Go.RowKit

/-- The error of a number that is put. -/
def pnE (n V : Nat) (z : Int) : Int := if ¬ (1 ≤ z ∧ z ≤ 8 ∧ V < 256 ^ z.toNat) then 2 else if 3900 < (n : Int) + z then 4 else 0
/-- The error of a dyad that is put. -/
def pdE (n : Nat) (s : Bool) (m : Nat) (f : Nat → Nat) (x : Int) : Int := if ¬ DMay s m f x then 8 else if 3900 < n + (4 + 4 * m) then 4 else 0
/-- What a call hands back that puts bytes. -/
def PRes (w : World) (E : Int) (xs : List Nat) (e : Ending) (w' : World) : Prop := ∃ A n c er, e = .returned (.tuple #[.slice A n c, .int .i64 er]) ∧ Hid (er = E) ∧ Hid (Ow w' w.heap.size (.slice A n c) (if er = 0 then xs else [])) ∧ Hid (n = (if er = 0 then xs else []).length) ∧ Hid (Below w.heap.size w w')
theorem PRes.bad {w w' : World} {E : Int} {xs : List Nat} (h0 : E ≠ 0) (hb : Below w.heap.size w w') : PRes w E xs (.returned (.tuple #[.slice none 0 0, .int .i64 E])) w' :=
  ⟨none, 0, 0, E, rfl, rfl, by rw [if_neg h0]; exact Ow.nil _ _, by rw [if_neg h0]; exact rfl, hb⟩
theorem PRes.good {w w' : World} {E : Int} {xs : List Nat} {v : Value} (h0 : E = 0) (ho : Ow w' w.heap.size v xs) (hb : Below w.heap.size w w') : PRes w E xs (.returned (.tuple #[v, .int .i64 0])) w' := by
  obtain ⟨A, c, rfl, hy⟩ := ho.shape
  exact ⟨A, xs.length, c, 0, rfl, h0.symm, by rw [if_pos rfl]; exact ho, by rw [if_pos rfl]; exact rfl, hb⟩
theorem PutNumber_any {w : World} {n c V : Nat} {A : Option Addr} {xs : List Nat} (h : By w w.heap.size A n c xs) (hV : V ≤ 18446744073709551615) (z : Int) :
    Calls Try.prog 7 #[.slice A n c, .int .u64 (V : Int), .int .i64 z] w (PRes w (pnE n V z) (xs ++ be V z.toNat)) := by
  by_cases h1 : 1 ≤ z ∧ z ≤ 8 ∧ V < 256 ^ z.toNat
  · obtain ⟨k, rfl⟩ : ∃ k : Nat, z = k := ⟨z.toNat, by omega⟩
    have h2 := h1.2.2
    rw [Int.toNat_natCast] at h2 ⊢
    by_cases h3 : 3900 < n + k
    · have hE : pnE n V k = 4 := by unfold pnE; rw [if_neg (by rw [Int.toNat_natCast]; exact fun h => h ⟨h1.1, h1.2.1, h2⟩), if_pos (by omega)]
      rw [hE]
      refine (PutNumber_many (by omega) (by omega) h2 hV h3 h.max).mono ?_
      rintro e w' ⟨rfl, rfl⟩
      exact PRes.bad (by omega) (Below.refl _ _)
    · have hE : pnE n V k = 0 := by unfold pnE; rw [if_neg (by rw [Int.toNat_natCast]; exact fun h => h ⟨h1.1, h1.2.1, h2⟩), if_neg (by omega)]
      refine (PutNumber_fits h (by omega) (by omega) h2 hV (by omega)).mono ?_
      rintro e w' ⟨v, rfl, ho, hb⟩
      exact PRes.good hE ho.out hb
  · have hE : pnE n V z = 2 := if_pos h1
    rw [hE]
    refine (PutNumber_arg h1 hV).mono ?_
    rintro e w' ⟨rfl, rfl⟩
    exact PRes.bad (by omega) (Below.refl _ _)
theorem PutDyad_any {w : World} {n c m d : Nat} {A D : Option Addr} {f : Nat → Nat} {s : Bool} {x : Int} {xs : List Nat} (h : By w w.heap.size A n c xs) (hr : Rd w w.heap.size D m d f) :
    Calls Try.prog 9 #[.slice A n c, .agg #[.bool s, .slice D m d, .int .i64 x]] w (PRes w (pdE n s m f x) (xs ++ dtx s m f x.toNat)) := by
  by_cases h1 : DMay s m f x
  · by_cases h3 : 3900 < n + (4 + 4 * m)
    · have hE : pdE n s m f x = 4 := by unfold pdE; rw [if_neg (fun h => h h1), if_pos h3]
      rw [hE]
      refine (PutDyad_many hr h1 h3 h.max).mono ?_
      rintro e w' ⟨rfl, hb⟩
      exact PRes.bad (by omega) hb
    · have hE : pdE n s m f x = 0 := by unfold pdE; rw [if_neg (fun h => h h1), if_neg h3]
      obtain ⟨X, rfl⟩ : ∃ X : Nat, x = X := ⟨x.toNat, by have := h1.2.1; omega⟩
      rw [Int.toNat_natCast]
      refine (PutDyad_fits h hr h1 (by omega)).mono ?_
      rintro e w' ⟨v, rfl, ho, hb⟩
      exact PRes.good hE ho.out hb
  · have hE : pdE n s m f x = 8 := if_pos h1
    rw [hE]
    refine (PutDyad_bad hr h1).mono ?_
    rintro e w' ⟨rfl, hb⟩
    exact PRes.bad (by omega) hb

theorem be_one (x : Nat) : be x 1 = [x % 256] := rfl
theorem dtx_head (s : Bool) (m : Nat) (f : Nat → Nat) (X : Nat) (rest : List Nat) : dtx s m f X ++ rest = (if s then 1 else 0) % 256 :: X / 256 % 256 :: X % 256 :: m % 256 :: (lms f m ++ rest) := by
  unfold dtx
  simp only [List.append_assoc]
  rfl
/-- What was put is told. -/
theorem told {s : Bool} {m X : Nat} {f : Nat → Nat} (rest : List Nat) (hm : DMay s m f (X : Int)) (hf : ∀ j, f j < 4294967296) (ho : ∀ j, m ≤ j → f j = 0) :
    sgOf (dtx s m f X ++ rest) = (if s then 1 else 0) ∧ cntOf (dtx s m f X ++ rest) = m ∧ expOf (dtx s m f X ++ rest) = X ∧ limOf (dtx s m f X ++ rest) = f ∧ dE (dtx s m f X ++ rest) = 0 := by
  have h40 := hm.1.1
  have hX := hm.2.2.1
  have hcnt : cntOf (dtx s m f X ++ rest) = m := by
    rw [dtx_head]
    show m % 256 = m
    omega
  have hsg : sgOf (dtx s m f X ++ rest) = (if s then 1 else 0) := by
    rw [dtx_head]
    cases s <;> rfl
  have hexp : expOf (dtx s m f X ++ rest) = X := by
    rw [dtx_head]
    show bn [X / 256 % 256, X % 256] = X
    show X % 256 + 256 * (X / 256 % 256 + 256 * 0) = X
    omega
  have hlim : limOf (dtx s m f X ++ rest) = f := by
    funext j
    unfold limOf
    rw [hcnt, dtx_head]
    exact lof_lms rest hf ho j
  refine ⟨hsg, hcnt, hexp, hlim, ?_⟩
  unfold dE
  rw [hcnt, hsg, hlim, hexp, if_neg (by rw [List.length_append, dtx_length]; omega), if_pos]
  cases s
  · exact ⟨by simp, hm⟩
  · exact ⟨by simp, hm⟩
/-- What is told was put so. -/
theorem put_so {ys : List Nat} (hy : ∀ y ∈ ys, y < 256) (h : dE ys = 0) : 4 + 4 * cntOf ys ≤ ys.length ∧ DMay (decide (sgOf ys = 1)) (cntOf ys) (limOf ys) (expOf ys) ∧ dtx (decide (sgOf ys = 1)) (cntOf ys) (limOf ys) (expOf ys) = ys.take (4 + 4 * cntOf ys) := by
  unfold dE at h
  split at h
  · cases h
  · rename_i hl
    split at h
    · rename_i hm
      refine ⟨by omega, hm.2, ?_⟩
      match ys, hy, hl, hm with
      | a :: b :: c :: d :: zs, hy, hl, hm =>
        have ha := hy a (by simp)
        have hb := hy b (by simp)
        have hc := hy c (by simp)
        have hd := hy d (by simp)
        have hs : sgOf (a :: b :: c :: d :: zs) = a := rfl
        have hcn : cntOf (a :: b :: c :: d :: zs) = d := rfl
        have hx : expOf (a :: b :: c :: d :: zs) = c + 256 * (b + 256 * 0) := rfl
        rw [hs] at hm ⊢
        have hli : limOf (a :: b :: c :: d :: zs) = lof zs d := rfl
        rw [hcn] at hl ⊢
        rw [hx, hli]
        have e := dtx_head (decide (a = 1)) d (lof zs d) (c + 256 * (b + 256 * 0)) []
        rw [List.append_nil] at e
        rw [e, List.append_nil, lms_lof (fun x h => hy x (by simp [h])) (Nat.le_refl d) (by simp at hl; omega)]
        have e1 : (if decide (a = 1) = true then 1 else 0) % 256 = a := by
          have := hm.1
          rcases (by omega : a = 0 ∨ a = 1) with rfl | rfl <;> rfl
        rw [e1, show (c + 256 * (b + 256 * 0)) / 256 % 256 = b by omega, show (c + 256 * (b + 256 * 0)) % 256 = c by omega, show d % 256 = d by omega, show 4 + 4 * d = 4 * d + 1 + 1 + 1 + 1 by omega]
        rfl
      | [], _, hl, _ => exact absurd (.inl (by simp)) hl
      | [_], _, hl, _ => exact absurd (.inl (by simp)) hl
      | [_, _], _, hl, _ => exact absurd (.inl (by simp)) hl
      | [_, _, _], _, hl, _ => exact absurd (.inl (by simp)) hl
    · cases h
/-- A beginning is told as one. -/
theorem begun {ys : List Nat} {k : Nat} (h : dE ys = 0) (hk : k = 4 + 4 * cntOf ys) : dE (ys.take (k - 1)) = 40 := by
  unfold dE at h
  split at h
  · cases h
  · rename_i hl
    unfold dE
    rw [if_pos]
    rw [List.length_take]
    rcases Nat.eq_zero_or_pos (cntOf ys) with h0 | h0
    · left; omega
    · right
      have : cntOf (ys.take (k - 1)) = cntOf ys := by
        unfold cntOf
        rw [List.getD_eq_getElem?_getD, List.getD_eq_getElem?_getD, List.getElem?_take, if_pos (by omega)]
      rw [this]
      omega

end Go.Proofs.Ytmaggpigodkhhaa
