/-
  The walks of the laws FnExactFormatFormula, FnExactDepthOf, FnExactSameFormula. No condition.
-/
import Derived.Test.YtnpfnfenkklocaaZCmb
namespace Go.Proofs.Ytnpfnfenkklocaa
open Go.RowKit
open Go Go.Deep

end Go.Proofs.Ytnpfnfenkklocaa
