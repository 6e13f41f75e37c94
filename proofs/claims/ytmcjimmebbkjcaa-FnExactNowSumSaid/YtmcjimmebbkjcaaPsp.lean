/-
  Contract of spec.PuzzlePairs. No condition.
-/
import Derived.Test.YtmcjimmebbkjcaaPss
import Derived.Test.YtmcjimmebbkjcaaPsn
import Derived.Test.YtmcjimmebbkjcaaPsc
namespace Go.Proofs.Ytmcjimmebbkjcaa
open Go.RowKit Go.WideShapes
open Go Go.Deep
set_option linter.unusedSimpArgs false

def sumN (p : Pr) : Nat := (p.a + p.b).toNat
/-- the sums that a product gives away, after k pairs -/
def badL (cs : List Int) (xs : List Pr) : Nat → List Bool
  | 0 => List.replicate 101 false
  | k + 1 => if cs.getD (prodN (xs.getD k default)) 0 = 1 then (badL cs xs k).set (sumN (xs.getD k default)) true else badL cs xs k
theorem badL_len (cs : List Int) (xs : List Pr) : ∀ k, (badL cs xs k).length = 101
  | 0 => List.length_replicate ..
  | k + 1 => by
    unfold badL
    split
    · rw [List.length_set, badL_len cs xs k]
    · exact badL_len cs xs k
theorem badL_yes {cs : List Int} {xs : List Pr} {k : Nat} (h : cs.getD (prodN (xs.getD k default)) 0 = 1) : (badL cs xs k).set (sumN (xs.getD k default)) true = badL cs xs (k + 1) := by
  conv => rhs; unfold badL
  rw [if_pos h]
theorem badL_no {cs : List Int} {xs : List Pr} {k : Nat} (h : ¬ cs.getD (prodN (xs.getD k default)) 0 = 1) : badL cs xs k = badL cs xs (k + 1) := by
  conv => rhs; unfold badL
  rw [if_neg h]
def badE (xs : List Pr) : List Bool := badL (cntL xs xs.length) xs xs.length
def kn2 (xs : List Pr) : List Pr := xs.filter (fun p => !((badE xs).getD (sumN p) false))
def puzR (x : Int) : List Pr := nowR sumW (nowR prodW (kn2 (sumR x)))
theorem puzR_len (x : Int) : (puzR x).length ≤ 5000 := by
  unfold puzR
  exact Nat.le_trans (nowR_len _ _) (Nat.le_trans (nowR_len _ _) (Nat.le_trans (List.length_filter_le _ _) (sumR_len x)))
theorem sumR_mem {x : Int} {p : Pr} (h : p ∈ sumR x) : 2 ≤ p.a ∧ p.a ≤ p.b ∧ p.a + p.b ≤ 100 := by
  unfold sumR at h
  split at h
  · unfold sumTo at h
    obtain ⟨i, hi, h⟩ := List.mem_flatMap.1 h
    unfold rowS at h
    obtain ⟨k, hk, rfl⟩ := List.mem_map.1 h
    rw [List.mem_range] at hi hk
    refine ⟨?_, ?_, ?_⟩
    · show (2 : Int) ≤ ((i + 2 : Nat) : Int); omega
    · show ((i + 2 : Nat) : Int) ≤ ((i + 2 + k : Nat) : Int); omega
    · show ((i + 2 : Nat) : Int) + ((i + 2 + k : Nat) : Int) ≤ 100; omega
  · cases h
theorem sumR_at {x : Int} {k : Nat} (h : k < (sumR x).length) : 2 ≤ ((sumR x).getD k default).a ∧ ((sumR x).getD k default).a ≤ ((sumR x).getD k default).b ∧ ((sumR x).getD k default).a + ((sumR x).getD k default).b ≤ 100 := by
  refine sumR_mem (x := x) ?_
  rw [List.getD_eq_getElem?_getD, List.getElem?_eq_getElem h]
  exact List.getElem_mem _
theorem prod_bd {a b : Int} (h : 2 ≤ a) (h2 : a ≤ b) (h3 : a + b ≤ 100) : 0 ≤ a * b ∧ a * b < 10000 := by
  have h4 : a * b ≤ 98 * 98 := Int.mul_le_mul (by omega) (by omega) (by omega) (by omega)
  exact ⟨Int.mul_nonneg (by omega) (by omega), by omega⟩

end Go.Proofs.Ytmcjimmebbkjcaa
