/-
  Several texts in one: Sty. Conditions: as each theorem says.
-/
import Derived.Test.YthjfanhhindjlaaGreatZFen
import Derived.Test.YthjfanhhindjlaaGreatZSvb
/-
  staying: the iterator over the worlds that stay when a formula is announced. No condition but the readings.
-/
namespace Go.Proofs.YthjfanhhindjlaaGreat
open Go.RowKit Go.WideShapes
open Go Go.Deep
set_option linter.unusedSimpArgs false

/-- the worlds that stay when a formula is announced -/
def stayP (m : Md) (xs : List Nd) : Nat → Bool := if holdsR m xs then evP m xs else fun _ => false
/-- an iterator over a set, in new memory -/
def StayAns (w : World) (p : Nat → Bool) (e : Ending) (w' : World) : Prop :=
  ∃ Bn, e = .returned (.func (.func 119) #[] #[.pointer (some ⟨Bn, 0, none⟩)]) ∧ w.heap.size ≤ Bn ∧ Cm w' Bn 77 (bL p) ∧ Below w.heap.size w w'

end Go.Proofs.YthjfanhhindjlaaGreat
