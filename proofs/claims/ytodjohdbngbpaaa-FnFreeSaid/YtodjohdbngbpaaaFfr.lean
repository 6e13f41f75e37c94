/-
  What the law FnFree rests on: the free models with one to four facts, one fact told to the agent 0, all reckoned out. No condition.
-/
import Derived.Test.YtodjohdbngbpaaaZSvb
import Derived.Test.YtodjohdbngbpaaaZSet
import Derived.Test.YtodjohdbngbpaaaZMok
import Derived.Test.YtodjohdbngbpaaaZSem
import Derived.Test.YtodjohdbngbpaaaZTmx
namespace Go.Proofs.Ytodjohdbngbpaaa
open Go.RowKit Go.WideShapes
open Go Go.Deep
set_option linter.unusedSimpArgs false

/-- the agent a knows whether the fact holds -/
def wtm (a fact : Nat) : Tm := .know 6 a (.leaf 1 fact)
def wfm (a fact : Nat) : List Nd := lay 0 (wtm a fact)
def toldM (N fact : Nat) : Md := tellM (freeM N 2) 0 fact
def wentM (N fact w : Nat) : Md := ⟨(toldM N fact).facts, (toldM N fact).blocks, w⟩
def freeB (k fact w : Nat) : Bool :=
  decide (whereR (freeM (2 ^ k) 2) (wfm 0 fact) = []) && everyR (toldM (2 ^ k) fact) (wfm 0 fact) && decide (whereR (toldM (2 ^ k) fact) (wfm 1 fact) = []) && holdsR (wentM (2 ^ k) fact w) (wfm 0 fact) &&
    !(knowsR (freeM (2 ^ k) 2) 0) && (knowsR (wentM (2 ^ k) fact w) 0 == decide (k = 1)) && specOk (freeM (2 ^ k) 2) && mdOk (freeM (2 ^ k) 2) && mdOk (toldM (2 ^ k) fact)
set_option maxRecDepth 100000 in
theorem free_1 : ∀ fact, fact < 1 → ∀ w, w < 2 → freeB 1 fact w = true := by decide +kernel
set_option maxRecDepth 100000 in
theorem free_2 : ∀ fact, fact < 2 → ∀ w, w < 2 → freeB 2 fact w = true := by decide +kernel
set_option maxRecDepth 100000 in
theorem free_3 : ∀ fact, fact < 3 → ∀ w, w < 2 → freeB 3 fact w = true := by decide +kernel
set_option maxRecDepth 100000 in
theorem free_4 : ∀ fact, fact < 4 → ∀ w, w < 2 → freeB 4 fact w = true := by decide +kernel
theorem free_any {k fact w : Nat} (h1 : 1 ≤ k) (h4 : k ≤ 4) (hf : fact < k) (hw : w < 2) : freeB k fact w = true := by
  obtain rfl | rfl | rfl | rfl : k = 1 ∨ k = 2 ∨ k = 3 ∨ k = 4 := by omega
  · exact free_1 fact hf w hw
  · exact free_2 fact hf w hw
  · exact free_3 fact hf w hw
  · exact free_4 fact hf w hw
end Go.Proofs.Ytodjohdbngbpaaa
