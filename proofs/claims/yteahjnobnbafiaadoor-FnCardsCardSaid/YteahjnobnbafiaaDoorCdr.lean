/-
  Contract of spec.FirstSafe. No condition.
-/
import Derived.Test.YteahjnobnbafiaaDoorCdq
namespace Go.Proofs.YteahjnobnbafiaaDoor
open Go.RowKit Go.WideShapes
open Go Go.Deep
set_option linter.unusedSimpArgs false

/-- an answer: a new row of numbers, and whether there is one -/
def IntsOpt (w : World) (r : Option (List Int)) (e : Ending) (w' : World) : Prop := ∃ v, e = .returned (.tuple #[v, .bool r.isSome]) ∧ Io w.heap.size w'.heap.size w' v (r.getD []) ∧ Below w.heap.size w w'
theorem IntsOpt.no {w w' : World} (h : Below w.heap.size w w') : IntsOpt w none (.returned (.tuple #[.slice none 0 0, .bool false])) w' := ⟨_, rfl, Ro.nil _ _ _ _, h⟩
end Go.Proofs.YteahjnobnbafiaaDoor
