/-
  Contracts of slices.EqualFunc of two lists of lists of ints with slices.Equal; spec.SameModel, impl.SameModel.
-/
import Derived.Test.YtmjmehbkeipliaaSme
namespace Go.Proofs.Ytmjmehbkeipliaa
open Go.RowKit Go.WideShapes
open Go Go.Deep

theorem llist_same {l l' : List (List Int)} (h : l.length = l'.length) (hk : ∀ j, j < l.length → l.getD j [] = l'.getD j []) : l = l' := by
  apply List.ext_getElem?
  intro j
  rcases Nat.lt_or_ge j l.length with hj | hj
  · have := hk j hj
    rw [List.getD_eq_getElem?_getD, List.getD_eq_getElem?_getD, List.getElem?_eq_getElem hj, List.getElem?_eq_getElem (show j < l'.length by omega)] at this
    rw [List.getElem?_eq_getElem hj, List.getElem?_eq_getElem (show j < l'.length by omega)]
    simpa using this
  · rw [List.getElem?_eq_none hj, List.getElem?_eq_none (by omega)]
theorem llist_differ {l l' : List (List Int)} (h : l.length ≠ l'.length) : decide (l = l') = false := decide_eq_false (fun e => h (by rw [e]))
theorem llist_differ_at {l l' : List (List Int)} {k : Nat} (h : l.getD k [] ≠ l'.getD k []) : decide (l = l') = false := decide_eq_false (fun e => h (by rw [e]))

def sameM (m m' : Md) : Bool := decide (m.facts = m'.facts) && decide (m.blocks = m'.blocks) && decide (m.actual = m'.actual)

end Go.Proofs.Ytmjmehbkeipliaa
