/-
  Contracts of spec.HidesAll and IsSafe. No condition.
-/
import Derived.Test.YteahjnobnbafiaaDoorCdo
namespace Go.Proofs.YteahjnobnbafiaaDoor
open Go.RowKit Go.WideShapes
open Go Go.Deep
set_option linter.unusedSimpArgs false

theorem all_drop {α : Type} (l : List α) (f : α → Bool) {j : Nat} (hj : j < l.length) (d : α) : (l.drop j).all f = (f (l.getD j d) && (l.drop (j + 1)).all f) := by
  rw [List.drop_eq_getElem_cons hj]
  have e : l[j] = l.getD j d := by rw [List.getD_eq_getElem?_getD, List.getElem?_eq_getElem hj]; rfl
  rw [e, List.all_cons]
theorem handsN_nat {n k j : Nat} (hn : n ≤ 7) (hj : j < (handsN n k).length) : ∃ X : Nat, (handsN n k).getD j 0 = (X : Int) ∧ X < 128 := by
  have hm : (handsN n k).getD j 0 ∈ handsN n k := by rw [List.getD_eq_getElem?_getD, List.getElem?_eq_getElem hj]; exact List.getElem_mem hj
  have h1 := handsTo_in (show (handsN n k).getD j 0 ∈ handsTo k (2 ^ n) from hm)
  have h2 := pow_le hn
  exact ⟨((handsN n k).getD j 0).toNat, by omega, by omega⟩

end Go.Proofs.YteahjnobnbafiaaDoor
