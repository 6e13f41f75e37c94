/-
  Contracts of spec.ParseFormula, Negate, Conjoin, Known, After.
-/
import Derived.Test.YtilpicahlgieiaaSpecQ
import Derived.Test.YtilpicahlgieiaaComb
namespace Go.Proofs.Ytilpicahlgieiaa
open Go.RowKit
open Go Go.Deep

end Go.Proofs.Ytilpicahlgieiaa
