/- The laws of caches, out of their walks. -/
import Derived.Test.YthklhhgkklpbkaaCalv
import Derived.Test.YthklhhgkklpbkaaCfre
namespace Go.Proofs.Ythklhhgkklpbkaa
open Go.RowKit Go.Shelf Go.Lib

theorem alive_ok : AliveOk := fun w => calive_any w
theorem same_ok : SameOk := fun _ o p o' p' _ _ _ _ _ _ _ _ _ _ h k hB hC => csame_any o p o' p' h k hB hC
theorem check_ok : CheckOk := fun _ o p _ _ _ _ _ h hB => ccheck_any o p h hB
theorem own_ds {w : World} {B : Nat} {v : Value} {l : List De} (h : Od w B v l) : ∃ A n c, v = .slice A n c ∧ Ds w w.heap.size A n c l ∧ ∀ a, A = some a → B ≤ a.block := by
  obtain ⟨A, c, rfl, hD, _, hob⟩ := h.form
  refine ⟨A, _, c, rfl, hD, fun a ha => ?_⟩
  rcases h.own.2 with ⟨e, _⟩ | ⟨g, cap, cur, e, hB, _⟩
  · injection e with e
    rw [e] at ha
    cases ha
  · injection e with e
    rw [e] at ha
    injection ha with ha
    rw [← ha]
    exact hB
theorem merge_ok : MergeOk := fun _ o p _ _ _ _ _ _ _ _ _ _ h k hB hC => (cmerge_any o p h k hB hC).mono fun _ _ ⟨v, he, hv⟩ => by
  obtain ⟨A', n', c', rfl, h1, h2⟩ := own_ds hv.out.1
  exact ⟨A', n', c', he, hid ⟨h1, hv.out.2, h2⟩⟩
theorem offer_ok : OfferOk := fun _ o p now _ _ _ _ _ h hB => (coffer_any o p now h hB).mono fun _ _ ⟨v, he, hv⟩ => by
  obtain ⟨A', n', c', rfl, h1, h2⟩ := own_ds hv.out.1
  exact ⟨A', n', c', he, hid ⟨h1, hv.out.2, h2⟩⟩

theorem conce_walk {w : World} {nc cc nl cl nm cm : Nat} {Ac Al Am : Option Addr} {k l m : List De} {o p : Int} (hc : Ds w w.heap.size Ac nc cc k) (hl : Ds w w.heap.size Al nl cl l) (hm : Ds w w.heap.size Am nm cm m) :
    Calls Try.prog 5 #[cav o p (.slice Ac nc cc), .slice Al nl cl, .slice Am nm cm] w fun e w' => e = .returned (.bool true) ∧ Below w.heap.size w w' := once_walk alive_ok merge_ok same_ok o p hc hl hm
theorem coff_walk {w : World} {nc cc nd cd : Nat} {Ac Ad : Option Addr} {k k' : List De} {o p o' p' now : Int} (hc : Ds w w.heap.size Ac nc cc k) (hd : Ds w w.heap.size Ad nd cd k') :
    Calls Try.prog 7 #[cav o p (.slice Ac nc cc), cav o' p' (.slice Ad nd cd), .int .i64 now] w fun e w' => e = .returned (.bool true) ∧ Below w.heap.size w w' := offers_walk alive_ok offer_ok merge_ok same_ok check_ok o p o' p' now hc hd
theorem cfre_walk {w : World} {nc cc nl cl : Nat} {Ac Al : Option Addr} {k l : List De} {o p : Int} (hc : Ds w w.heap.size Ac nc cc k) (hl : Ds w w.heap.size Al nl cl l) :
    Calls Try.prog 6 #[cav o p (.slice Ac nc cc), .slice Al nl cl] w fun e w' => e = .returned (.bool true) ∧ Below w.heap.size w w' := fresh_walk alive_ok merge_ok check_ok o p hc hl
end Go.Proofs.Ythklhhgkklpbkaa
