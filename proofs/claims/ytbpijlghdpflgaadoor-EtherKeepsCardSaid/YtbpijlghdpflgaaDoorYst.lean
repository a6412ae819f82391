/- A region that draws its order within a round, all of whose operations but the last ones only read: one walk, in the order of the text. No program is named here. -/
import Derived.Test.YtbpijlghdpflgaaDoorYmh
import Derived.StillTail
namespace Go.Proofs.YtbpijlghdpflgaaDoor
open Go.RowKit

theorem region_still_in {r m id : Nat} {P : Program} {Q : Exit → Act → World → Prop} {a : Act} {w : World} {l : List Oper} (n : Nat) (hm : P.follows .mixedOrders = true) (hB : Region.lexTailB .any l.toArray n = true) (hd : plainOps l.toArray = true) (hlo : ¬ LetsOut Q)
    (h : wpStill P l.toArray w.drew (fun a' => wpList P l.toArray Q (l.drop n) a' w.drew) (l.take n) a) : (Code.region id l.toArray true).wpIn (Fence.wide.inRound r) m P Q a w := by
  simp only [Region.lexTailB, Bool.and_eq_true, decide_eq_true_eq] at hB
  obtain ⟨⟨⟨⟨hsel, hn⟩, hs⟩, hc⟩, hlex⟩ := hB
  have e1 : (l.take n).length = n := by
    rw [List.length_take]
    exact Nat.min_eq_left (Nat.le_of_lt (by simpa using hn))
  have e2 : (l.drop n).length = l.toArray.size - n := by simp
  have hz := wpAnyL_lex (md := .any) (g := l.toArray.size - n) hsel hs hc hn (l.take n) 0 (Array.replicate l.toArray.size false) a
    (fun j hj => by rw [e1] at hj; simp [hj]) (by simpa using e1)
    ⟨by simp, fun j oj _ hl => (by rw [getD_replicate_false] at hl; cases hl), fun t _ ht => getD_in (by simpa using ht) (getD_replicate_false _ _)⟩ (by rw [e1]; exact hlex) h
  have hq := wpAny_of_head (Q' := Q) (g := l.toArray.size - n) (fun listed a' hL => by
    have k := wpAny_of_seq (md := .any) (Q' := Q) (l.drop n) n listed a' w.drew (fun j => by simp [List.getElem?_drop]) (by rw [e2]; exact hL.1) hL.2
    rwa [e2] at k) _ _ _ hz
  rw [e1, show n + (l.toArray.size - n) = l.toArray.size by omega] at hq
  exact wpIn_region_any hm (wpAny_in hd hlo _ _ _ _ hq)
end Go.Proofs.YtbpijlghdpflgaaDoor
