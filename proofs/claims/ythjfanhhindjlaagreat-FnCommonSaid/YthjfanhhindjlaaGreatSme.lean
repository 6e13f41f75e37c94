/-
  Contracts of spec.l03Same, slices.Equal of two lists of ints: they tell whether the lists are equal.
-/
import Derived.Test.YthjfanhhindjlaaGreatZMok
namespace Go.Proofs.YthjfanhhindjlaaGreat
open Go.RowKit Go.WideShapes
open Go Go.Deep

theorem list_same {l l' : List Int} (h : l.length = l'.length) (hk : ∀ j, j < l.length → l.getD j 0 = l'.getD j 0) : l = l' := by
  apply List.ext_getElem? 
  intro j
  rcases Nat.lt_or_ge j l.length with hj | hj
  · rw [getD_some 0 hj, getD_some 0 (show j < l'.length by omega), hk j hj]
  · rw [List.getElem?_eq_none hj, List.getElem?_eq_none (by omega)]
theorem list_differ {l l' : List Int} (h : l.length ≠ l'.length) : decide (l = l') = false := decide_eq_false (fun e => h (by rw [e]))
theorem list_differ_at {l l' : List Int} {k : Nat} (h : l.getD k 0 ≠ l'.getD k 0) : decide (l = l') = false := decide_eq_false (fun e => h (by rw [e]))

end Go.Proofs.YthjfanhhindjlaaGreat
