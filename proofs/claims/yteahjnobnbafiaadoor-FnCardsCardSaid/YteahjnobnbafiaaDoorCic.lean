/-
  Contract of Deal.completed. Conditions: a valid deal, hands from 1 to 127, at most 128 of them in the window, a size of at most 7.
-/
import Derived.Test.YteahjnobnbafiaaDoorCit
import Derived.Test.YteahjnobnbafiaaDoorCiu
import Derived.Test.YteahjnobnbafiaaDoorCiv
import Derived.Test.YteahjnobnbafiaaDoorCdq
namespace Go.Proofs.YteahjnobnbafiaaDoor
open Go.RowKit Go.WideShapes
open Go Go.Deep
set_option linter.unusedSimpArgs false

/-- what the program's search answers -/
def ComplP (B : Nat) (r : Option (List Int)) (w : World) (e : Ending) (w' : World) : Prop :=
  ∃ v, e = .returned (.tuple #[v, .bool r.isSome]) ∧ (∃ a n c, v = .slice a n c) ∧ (∀ o, r = some o → w'.ownsRow B 3 1 v o.length (ints o)) ∧ Below w.heap.size w w'
theorem goC_step {d : Dl} {next : List Int → List Int → Option (List Int)} {b al : List Int} {i : Nat} (hi : i < al.length) :
    goC d next b (al.drop i) = match next (b ++ [al.getD i 0]) (fitP d (al.getD i 0) (al.drop (i + 1))) with
    | some o => some o
    | none => goC d next b (al.drop (i + 1)) := by
  rw [List.drop_eq_getElem_cons hi]
  have e : al[i] = al.getD i 0 := by rw [List.getD_eq_getElem?_getD, List.getElem?_eq_getElem hi]; rfl
  rw [e]; rfl

end Go.Proofs.YteahjnobnbafiaaDoor
