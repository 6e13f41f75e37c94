/-
  Sums and products as mathematics (chapter 13). No program text.
-/
import Derived.Test.YtmcjimmebbkjcaaPrm
namespace Go.Proofs.Ytmcjimmebbkjcaa
open Go

def prodW (p : Pr) : Int := IntKind.i64.wrap (p.a * p.b)
def sumW (p : Pr) : Int := IntKind.i64.wrap (p.a + p.b)
def clashW (f : Pr → Int) (p x : Pr) : Bool := (f x == f p) && !(x == p)
def uniqW (f : Pr → Int) (xs : List Pr) (p : Pr) : Bool := !(xs.any (clashW f p)) && hasP xs p
/-- another pair of the same sum that its product gives away -/
def tellW (xs : List Pr) (p x : Pr) : Bool := (sumW x == sumW p) && uniqW prodW xs x
def knewR (xs : List Pr) : List Pr := xs.filter (fun p => !(xs.any (tellW xs p)))
def nowR (f : Pr → Int) (xs : List Pr) : List Pr := xs.filter (fun p => uniqW f xs p)
/-- the pairs of a first number -/
def rowS (limit x : Nat) : List Pr := (List.range (limit + 1 - 2 * x)).map (fun k => ⟨x, (x + k : Nat)⟩)
def sumTo (limit m : Nat) : List Pr := (List.range m).flatMap (fun i => rowS limit (i + 2))
def sumR (x : Int) : List Pr := if 4 ≤ x ∧ x ≤ 100 then sumTo x.toNat (x.toNat / 2 - 1) else []
theorem rowS_len (limit x : Nat) : (rowS limit x).length = limit + 1 - 2 * x := by simp [rowS]
theorem sumTo_succ (limit m : Nat) : sumTo limit (m + 1) = sumTo limit m ++ rowS limit (m + 2) := by
  unfold sumTo; rw [List.range_succ, List.flatMap_append]; simp
theorem sumTo_len (limit m : Nat) (h : limit ≤ 100) : (sumTo limit m).length ≤ 100 * m := by
  induction m with
  | zero => exact Nat.le_refl _
  | succ m ih => rw [sumTo_succ, List.length_append, rowS_len]; omega
theorem sumR_len (x : Int) : (sumR x).length ≤ 5000 := by
  unfold sumR; split
  · have := sumTo_len x.toNat (x.toNat / 2 - 1) (by omega); omega
  · simp
theorem knewR_len (xs : List Pr) : (knewR xs).length ≤ xs.length := List.length_filter_le _ _
theorem nowR_len (f : Pr → Int) (xs : List Pr) : (nowR f xs).length ≤ xs.length := List.length_filter_le _ _
theorem any_takeP {xs : List Pr} {f : Pr → Bool} {k : Nat} (hk : k < xs.length) (h : (xs.take k).any f = false) : (xs.take (k + 1)).any f = f (xs.getD k default) := by
  rw [take_oneP hk, List.any_append, h]; simp
theorem any_yesP {xs : List Pr} {f : Pr → Bool} {k : Nat} (h : (xs.take k).any f = true) : xs.any f = true := by
  rw [List.any_eq_true] at *
  obtain ⟨x, hx, e⟩ := h
  exact ⟨x, List.mem_of_mem_take hx, e⟩
theorem clashW_yes {f : Pr → Int} {p x : Pr} (h : f x = f p) (h2 : x ≠ p) : clashW f p x = true := by
  unfold clashW; rw [beq_iff_eq.2 h, beq_eq_false_iff_ne.2 h2]; rfl
theorem clashW_no {f : Pr → Int} {p x : Pr} (h : f x ≠ f p) : clashW f p x = false := by
  unfold clashW; rw [beq_eq_false_iff_ne.2 h]; rfl
theorem clashW_same {f : Pr → Int} {p x : Pr} (h : x = p) : clashW f p x = false := by
  unfold clashW; rw [beq_iff_eq.2 h]; simp
theorem uniqW_any {f : Pr → Int} {xs : List Pr} {p : Pr} (h : xs.any (clashW f p) = true) : uniqW f xs p = false := by unfold uniqW; rw [h]; rfl
theorem uniqW_has {f : Pr → Int} {xs : List Pr} {p : Pr} (h : xs.any (clashW f p) = false) : uniqW f xs p = hasP xs p := by unfold uniqW; rw [h]; rfl
/-- a filter, element by element -/
def fltW (t : Pr → Bool) (xs : List Pr) (k : Nat) : List Pr := (xs.take k).filter t
theorem fltW_yes {t : Pr → Bool} {xs : List Pr} {k : Nat} (hk : k < xs.length) (h : t (xs.getD k default) = true) : fltW t xs (k + 1) = fltW t xs k ++ [xs.getD k default] := by
  unfold fltW
  rw [take_oneP hk, List.filter_append]
  generalize xs.getD k default = x at h ⊢
  simp [h]
theorem fltW_no {t : Pr → Bool} {xs : List Pr} {k : Nat} (hk : k < xs.length) (h : t (xs.getD k default) = false) : fltW t xs (k + 1) = fltW t xs k := by
  unfold fltW
  rw [take_oneP hk, List.filter_append]
  generalize xs.getD k default = x at h ⊢
  simp [h]
theorem fltW_end {t : Pr → Bool} {xs : List Pr} : fltW t xs xs.length = xs.filter t := by unfold fltW; rw [List.take_of_length_le (Nat.le_refl _)]
theorem fltW_len {t : Pr → Bool} {xs : List Pr} {k : Nat} : (fltW t xs k).length ≤ k := by
  unfold fltW
  exact Nat.le_trans (List.length_filter_le _ _) (by rw [List.length_take]; omega)
end Go.Proofs.Ytmcjimmebbkjcaa
