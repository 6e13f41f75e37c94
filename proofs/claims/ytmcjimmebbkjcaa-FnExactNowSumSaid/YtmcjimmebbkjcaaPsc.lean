/-
  Contract of spec.l12Counts: how often each product occurs. Conditions: at most 5000 pairs, products from 0 to 9999.
-/
import Derived.Test.YtmcjimmebbkjcaaPsm
import Derived.Test.YtmcjimmebbkjcaaPra
import Derived.Test.YtmcjimmebbkjcaaPrl
import Derived.Test.YtmcjimmebbkjcaaZLib
namespace Go.Proofs.Ytmcjimmebbkjcaa
open Go.RowKit Go.WideShapes
open Go Go.Deep
set_option linter.unusedSimpArgs false

def prodN (p : Pr) : Nat := (p.a * p.b).toNat
def cntL (xs : List Pr) : Nat → List Int
  | 0 => List.replicate 10000 0
  | k + 1 => (cntL xs k).set (prodN (xs.getD k default)) ((cntL xs k).getD (prodN (xs.getD k default)) 0 + 1)
theorem cntL_len (xs : List Pr) : ∀ k, (cntL xs k).length = 10000
  | 0 => List.length_replicate ..
  | k + 1 => by unfold cntL; rw [List.length_set, cntL_len xs k]
theorem cntL_get (xs : List Pr) : ∀ k i, k ≤ xs.length → i < 10000 → (cntL xs k).getD i 0 = (((xs.take k).countP (fun p => prodN p == i) : Nat) : Int)
  | 0, i, _, hi => by
    unfold cntL
    rw [List.getD_eq_getElem?_getD, List.getElem?_replicate, if_pos hi]; rfl
  | k + 1, i, hk, hi => by
    have ih := cntL_get xs k i (by omega) hi
    have hl := cntL_len xs k
    unfold cntL
    rw [take_oneP (by omega), List.countP_append]
    generalize xs.getD k default = x
    by_cases he : prodN x = i
    · rw [he, List.getD_eq_getElem?_getD, List.getElem?_set_self (by omega), Option.getD_some, ih]
      simp [he]
    · rw [List.getD_eq_getElem?_getD, List.getElem?_set_ne he, ← List.getD_eq_getElem?_getD, ih]
      simp [he]
theorem cntL_bd (xs : List Pr) (k i : Nat) (hk : k ≤ xs.length) (hi : i < 10000) : 0 ≤ (cntL xs k).getD i 0 ∧ (cntL xs k).getD i 0 ≤ (k : Int) := by
  rw [cntL_get xs k i hk hi]
  have := List.countP_le_length (p := fun p => prodN p == i) (l := xs.take k)
  rw [List.length_take] at this
  omega

end Go.Proofs.Ytmcjimmebbkjcaa
