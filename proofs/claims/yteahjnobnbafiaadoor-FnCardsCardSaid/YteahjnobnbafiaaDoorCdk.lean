/-
  Contract of spec.AnnouncementOk. No condition.
-/
import Derived.Test.YteahjnobnbafiaaDoorCdj
namespace Go.Proofs.YteahjnobnbafiaaDoor
open Go.RowKit Go.WideShapes
open Go Go.Deep
set_option linter.unusedSimpArgs false

def prevI (l : List Int) (i : Nat) : Option Int := if i = 0 then none else some (l.getD (i - 1) 0)
theorem ann_at {all l : List Int} {i : Nat} (hi : i < l.length) : annL all (prevI l i) (l.drop i) = (hasI all (l.getD i 0) && ((if i = 0 then true else decide (l.getD (i - 1) 0 < l.getD i 0)) && annL all (prevI l (i + 1)) (l.drop (i + 1)))) := by
  rw [List.drop_eq_getElem_cons hi]
  have e : l[i] = l.getD i 0 := by rw [List.getD_eq_getElem?_getD, List.getElem?_eq_getElem hi]; rfl
  rw [e]
  have p1 : prevI l (i + 1) = some (l.getD i 0) := by unfold prevI; rw [if_neg (by omega)]; rfl
  rw [p1]
  unfold prevI
  by_cases h0 : i = 0
  · subst h0; simp only [if_true, annL, Bool.true_and, Bool.and_true]
  · rw [if_neg h0, if_neg h0, ← Bool.and_assoc]; rfl
theorem ann_end {all l : List Int} {i : Nat} (hi : ¬ i < l.length) : annL all (prevI l i) (l.drop i) = true := by
  rw [List.drop_of_length_le (by omega)]
  cases prevI l i <;> rfl

end Go.Proofs.YteahjnobnbafiaaDoor
