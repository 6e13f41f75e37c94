/-
  Contract of spec.PuzzleLimit. No condition.
-/
import Derived.Test.YtmcjimmebbkjcaaPsp
namespace Go.Proofs.Ytmcjimmebbkjcaa
open Go.RowKit Go.WideShapes
open Go Go.Deep
set_option linter.unusedSimpArgs false

/-- the first of the first k numbers that passes -/
def firstQ (f : Nat → Bool) : Nat → Option Nat
  | 0 => none
  | k + 1 => match firstQ f k with
    | some i => some i
    | none => if f k then some k else none
theorem firstQ_no {f : Nat → Bool} {k : Nat} (h : firstQ f k = none) (h2 : f k = false) : firstQ f (k + 1) = none := by
  unfold firstQ; rw [h, h2]; rfl
theorem firstQ_yes {f : Nat → Bool} {k : Nat} (h : firstQ f k = none) (h2 : f k = true) : firstQ f (k + 1) = some k := by
  unfold firstQ; rw [h, h2]; rfl
theorem firstQ_more {f : Nat → Bool} {k i : Nat} (h : firstQ f k = some i) : ∀ d, firstQ f (k + d) = some i
  | 0 => h
  | d + 1 => by
    rw [show k + (d + 1) = (k + d) + 1 by omega]
    unfold firstQ
    rw [firstQ_more h d]
def oneP (i : Nat) : Bool := (puzR ((i + 4 : Nat) : Int)).length == 1
def limR (x : Int) : Int := if 4 ≤ x ∧ x ≤ 100 then (match firstQ oneP (x.toNat - 3) with | some i => ((i + 4 : Nat) : Int) | none => 0) else 0

end Go.Proofs.Ytmcjimmebbkjcaa
