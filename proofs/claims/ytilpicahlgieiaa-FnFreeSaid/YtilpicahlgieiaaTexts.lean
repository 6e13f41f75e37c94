/-
  Contracts of termOf and of FormatFormula and DepthOf of both sides.
-/
import Derived.Test.YtilpicahlgieiaaTermT
import Derived.Test.YtilpicahlgieiaaTermZ
namespace Go.Proofs.Ytilpicahlgieiaa
open Go.RowKit
open Go Go.Deep

/-- the term of a formula -/
def termOfL (xs : List Nd) : Tm := tmAt xs (xs.length - 1)
theorem termOfL_wf {xs : List Nd} (h : formOk xs = true) : (termOfL xs).wf := form_wf h
theorem termOfL_size {xs : List Nd} (h : formOk xs = true) : (termOfL xs).size ≤ 40 := by
  have := form_size h
  have := (formOk_parts h).2.1
  unfold termOfL; omega
/-- the text of a formula -/
def textL (xs : List Nd) : ByteArray := if formOk xs then str (txt (termOfL xs)) else ByteArray.mk #[]
/-- the depth of a formula -/
def depthL (xs : List Nd) : Int := if formOk xs then ((termOfL xs).deep : Int) else -1

theorem lastIx {xs : List Nd} (h : 1 ≤ xs.length) : ((xs.length - 1 : Nat) : Int) = (xs.length : Int) - 1 := by omega

end Go.Proofs.Ytilpicahlgieiaa
