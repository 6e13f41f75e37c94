/-
  Contracts of spec.ParseFormula, Negate, Conjoin, Known, After.
-/
import Derived.Test.YtodjohdbngbpaaaZSpe
import Derived.Test.YtodjohdbngbpaaaZCmb
namespace Go.Proofs.Ytodjohdbngbpaaa
open Go.RowKit
open Go Go.Deep

end Go.Proofs.Ytodjohdbngbpaaa
