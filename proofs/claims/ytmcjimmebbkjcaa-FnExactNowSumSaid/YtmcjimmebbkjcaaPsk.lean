/-
  Contract of spec.KnewIt. Condition: a list of at most 1048576 pairs.
-/
import Derived.Test.YtmcjimmebbkjcaaPsm
import Derived.Test.YtmcjimmebbkjcaaPra
import Derived.Test.YtmcjimmebbkjcaaPsu
namespace Go.Proofs.Ytmcjimmebbkjcaa
open Go.RowKit Go.WideShapes
open Go Go.Deep
set_option linter.unusedSimpArgs false

theorem tell_yes {xs : List Pr} {f : Pr → Bool} {k : Nat} (hk : k < xs.length) (h : f (xs.getD k default) = true) : false = !((xs.take (k + 1)).any f) := by
  rw [take_oneP hk, List.any_append]; generalize xs.getD k default = x at h ⊢; simp [h]
theorem tell_no {xs : List Pr} {f : Pr → Bool} {k : Nat} (hk : k < xs.length) (h : f (xs.getD k default) = false) : (xs.take (k + 1)).any f = (xs.take k).any f := by
  rw [take_oneP hk, List.any_append]; generalize xs.getD k default = x at h ⊢; simp [h]
theorem tellW_eq {xs : List Pr} {p y : Pr} (h : sumW y = sumW p) : tellW xs p y = uniqW prodW xs y := by
  unfold tellW; rw [beq_iff_eq.2 h, Bool.true_and]
theorem tellW_ne {xs : List Pr} {p y : Pr} (h : sumW y ≠ sumW p) : tellW xs p y = false := by
  unfold tellW; rw [beq_eq_false_iff_ne.2 h, Bool.false_and]

end Go.Proofs.Ytmcjimmebbkjcaa
