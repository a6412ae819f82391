/- The program's Order and Set. -/
import Derived.Test.YtgcmljnjfghagaaTy
import Derived.Test.YtgcmljnjfghagaaTv
namespace Go.Proofs.Ytgcmljnjfghagaa.Tm
open Go.RowKit Go.Shelf Go.Lib
set_option maxRecDepth 100000

noncomputable def setE (l : List De) (t : De) : Int := if chk l ≠ 0 then chk l else if may t = false then 8 else if t ∈ l then 12 else if 1024 ≤ l.length then 9 else 0
noncomputable def setL (l : List De) (t : De) : List De := if setE l t = 0 then wi t l else []
theorem set_chk {l : List De} {t : De} (h : chk l ≠ 0) : setE l t = chk l ∧ setL l t = [] := by
  have : setE l t = chk l := by unfold setE; rw [if_pos h]
  refine ⟨this, ?_⟩
  unfold setL
  rw [this, if_neg h]
theorem set_may {l : List De} {t : De} (h : chk l = 0) (k : may t = false) : setE l t = 8 ∧ setL l t = [] := by
  have : setE l t = 8 := by unfold setE; rw [if_neg (by simp [h]), if_pos k]
  refine ⟨this, ?_⟩
  unfold setL
  rw [this, if_neg (by decide)]
theorem set_in {l : List De} {t : De} (h : chk l = 0) (k : may t = true) (m : t ∈ l) : setE l t = 12 ∧ setL l t = [] := by
  have : setE l t = 12 := by unfold setE; rw [if_neg (by simp [h]), if_neg (by simp [k]), if_pos m]
  refine ⟨this, ?_⟩
  unfold setL
  rw [this, if_neg (by decide)]
theorem set_full {l : List De} {t : De} (h : chk l = 0) (k : may t = true) (m : ¬ t ∈ l) (n : 1024 ≤ l.length) : setE l t = 9 ∧ setL l t = [] := by
  have : setE l t = 9 := by unfold setE; rw [if_neg (by simp [h]), if_neg (by simp [k]), if_neg m, if_pos n]
  refine ⟨this, ?_⟩
  unfold setL
  rw [this, if_neg (by decide)]
theorem set_ok {l : List De} {t : De} (h : chk l = 0) (k : may t = true) (m : ¬ t ∈ l) (n : ¬ 1024 ≤ l.length) : setE l t = 0 ∧ setL l t = wi t l := by
  have : setE l t = 0 := by unfold setE; rw [if_neg (by simp [h]), if_neg (by simp [k]), if_neg m, if_neg n]
  refine ⟨this, ?_⟩
  unfold setL
  rw [this, if_pos rfl]
def orE (l : List De) : Int := if 1024 < l.length then 4 else if l.any (fun x => !may x) then 8 else 0
def orL (l : List De) : List De := if orE l = 0 then ordL l else []
theorem or_many {l : List De} (h : 1024 < l.length) : orE l = 4 ∧ orL l = [] := by
  have : orE l = 4 := by unfold orE; rw [if_pos h]
  exact ⟨this, by unfold orL; rw [this, if_neg (by decide)]⟩
theorem or_bad {l : List De} (h : ¬ 1024 < l.length) (k : l.any (fun x => !may x) = true) : orE l = 8 ∧ orL l = [] := by
  have : orE l = 8 := by unfold orE; rw [if_neg h, if_pos k]
  exact ⟨this, by unfold orL; rw [this, if_neg (by decide)]⟩
theorem or_ok {l : List De} (h : ¬ 1024 < l.length) (k : l.any (fun x => !may x) = false) : orE l = 0 ∧ orL l = ordL l := by
  have : orE l = 0 := by unfold orE; rw [if_neg h, if_neg (by simp [k])]
  exact ⟨this, by unfold orL; rw [this, if_pos rfl]⟩

/-- A list of the call's own, and an error. -/
def LstE (w : World) (L : List De) (er : Int) (e : Ending) (w' : World) : Prop := ∃ v, e = .returned (.tuple #[v, .int .i64 er]) ∧ Hid (Od w' w.heap.size v L ∧ Below w.heap.size w w')
theorem LstE.none' {w w' : World} {er : Int} (h : Below w.heap.size w w') : LstE w [] er (.returned (.tuple #[.slice none 0 0, .int .i64 er])) w' := ⟨_, rfl, hid ⟨Od.nil _ _, h⟩⟩
theorem Od.mono {w : World} {B C : Nat} {v : Value} {l : List De} (h : Od w B v l) (hC : C ≤ B) : Od w C v l := by
  obtain ⟨⟨hl, hor⟩, hm⟩ := h
  refine ⟨⟨hl, ?_⟩, hm⟩
  rcases hor with e | ⟨b, cap, cur, e, hB, hr⟩
  · exact .inl e
  · exact .inr ⟨b, cap, cur, e, Nat.le_trans hC hB, hr⟩

/-- What filled and emptied ask of an enter. -/
theorem fill_put {w : World} {C n c : Nat} {A : Option Addr} {l : List De} (h : Ds w C A n c l) (hC : C ≤ w.heap.size) (hn : l.length ≤ 1024) :
    Calls Try.prog 27 #[.func (.func 29) #[] #[], .slice A n c] w (FillS w fun r => r.Perm l ∧ Hn r r.length) :=
  filled_any 29 (enters_of Try.func29 (by kernel_rfl) rfl) (fun m r => r.Perm m ∧ Hn r r.length) h hC ⟨List.Perm.refl _, fun k _ hk => absurd hk (by simp)⟩
    (fun X g v r k d hq hp hd => by
      have hl : r.length < 99999 := by
        have h1 := hp.1.length_eq
        rw [List.length_take] at h1
        omega
      refine (put_any d hq hl hp.2).mono ?_
      rintro e w' ⟨rfl, H⟩
      obtain ⟨l', q1, q2, q3⟩ := H.out
      refine ⟨rfl, hid ⟨l', q1, ?_, q3⟩⟩
      rw [take_snoc hd]
      exact (q2.trans (hp.1.cons d)).trans (List.perm_append_comm (l₁ := [d]) (l₂ := l.take k)))
theorem fill_lay {w : World} {C n c : Nat} {A : Option Addr} {l : List De} (h : Ds w C A n c l) (hC : C ≤ w.heap.size) (hn : l.length ≤ 1024) :
    Calls Try.prog 27 #[.func (.func 28) #[] #[], .slice A n c] w (FillS w fun r => r = l) :=
  filled_any 28 (enters_of Try.func28 (by kernel_rfl) rfl) (fun m r => r = m) h hC rfl
    (fun X g v r k d hq hp hd => by
      have hl : r.length < 99999 := by
        rw [hp, List.length_take]
        omega
      refine (lay_any d hq hl).mono ?_
      rintro e w' ⟨rfl, H⟩
      exact ⟨rfl, hid ⟨_, H.out, by rw [hp, take_snoc hd]⟩⟩)

set_option maxHeartbeats 3200000 in
theorem porder_any {w : World} {B n c : Nat} {A : Option Addr} {l : List De} (h : Ds w B A n c l) (hB : B ≤ w.heap.size) :
    Calls Try.prog 13 #[.slice A n c] w (LstE w (orL l) (orE l)) := by
  have HL := hid h.len
  have hm := h.max
  have hcap := h.cap
  by_cases hn : 1024 < n
  · obtain ⟨e1, e2⟩ := or_many (l := l) (by rw [h.len]; exact hn)
    rw [e1, e2]
    have hz : (n : Int) > 1024 := by omega
    clear h
    go_enter Try.func13, Try.ntmps13
    go_wp2
    go_ret2
    exact LstE.none' (Below.refl _ _)
  have hz : ¬ (n : Int) > 1024 := by omega
  have hnl : ¬ 1024 < l.length := by rw [h.len]; exact hn
  have C1 := hid (containsFunc_any (fun x => !may x) 38 #[] (enters_of Try.func38 (by kernel_rfl) rfl) h hB (fun W x _ => order1_any x W))
  cases ha : l.any (fun x => !may x) with
  | true =>
    obtain ⟨e1, e2⟩ := or_bad hnl ha
    rw [e1, e2]
    rw [ha] at C1
    unfold Tel at C1
    clear h ha
    go_enter Try.func13, Try.ntmps13
    go_wp2_with (first
      | (go_at_call 37; with_reducible refine C1.out.mono ?_; rintro e w1 ⟨rfl, hb1⟩)
      | fail)
    go_ret2
    exact LstE.none' hb1.out
  | false =>
    obtain ⟨e1, e2⟩ := or_ok hnl ha
    rw [e1, e2]
    rw [ha] at C1
    unfold Tel at C1
    have C2 : Hid (∀ X, Below w.heap.size w X → Calls Try.prog 27 #[.func (.func 29) #[] #[], .slice A n c] X (FillS X fun r => r.Perm l ∧ Hn r r.length)) := hid fun X hb => fill_put ((h.mono hB).below hb) hb.size (by omega)
    unfold FillS at C2
    clear h ha
    go_enter Try.func13, Try.ntmps13
    go_wp2_with (first
      | (go_at_call 37; with_reducible refine C1.out.mono ?_; rintro e w1 ⟨rfl, hb1⟩; have C2' := hid (C2.out w1 hb1.out))
      | (go_at_call 27; with_reducible refine C2'.out.mono ?_; rintro e w2 ⟨g, rfl, H2⟩
         obtain ⟨v2, r2, q2, p2, b2⟩ := H2.out
         have C3 := hid (emptied_any q2 p2.2)
         unfold EmpS at C3
         have HP2 := hid (And.intro p2.1 b2)
         clear q2 p2 b2 H2 C1 C2 C2')
      | (go_at_call 30; with_reducible refine C3.out.mono ?_; rintro e w3 ⟨u3, s3, rfl, H3⟩; have C4 := hid (compact_any H3.out.1))
      | (go_at_call 39; with_reducible refine C4.out.mono ?_; rintro e w4 ⟨v4, rfl, H4⟩)
      | fail)
    go_ret2
    obtain ⟨o3, p3, s3', b3⟩ := H3.out
    obtain ⟨p2, b2⟩ := HP2.out
    have B2 : Below w.heap.size w w2 := hb1.out.trans (b2.mono hb1.out.size)
    have hle : w.heap.size ≤ w2.heap.size := B2.size
    have B3 : Below w.heap.size w w3 := B2.trans (b3.mono hb1.out.size)
    have B4 : Below w.heap.size w w4 := B3.trans (spoil_below H4.out.2 o3 hle B3.size)
    refine ⟨v4, rfl, hid ⟨?_, B4⟩⟩
    rw [ord_dd (p3.trans p2) s3'] at H4
    exact H4.out.1.mono hle
end Go.Proofs.Ytgcmljnjfghagaa.Tm
