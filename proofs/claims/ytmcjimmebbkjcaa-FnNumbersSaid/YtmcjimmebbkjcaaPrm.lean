/-
  Pairs of numbers: the functions of chapters 12 and 13 as mathematics. No program text.
-/
import Derived.Test.YtmcjimmebbkjcaaPrs
namespace Go.Proofs.Ytmcjimmebbkjcaa

def prOk (p : Pr) : Bool := decide (0 ≤ p.a ∧ p.a ≤ 40) && (decide (0 ≤ p.b ∧ p.b ≤ 40) && (decide (p.a - p.b = 1) || decide (p.b - p.a = 1)))
/-- the pairs of a number below -/
def allAt (most a : Nat) : List Pr := (if 0 < a then [⟨a, a - 1⟩] else []) ++ (if a < most then [⟨a, a + 1⟩] else [])
def allTo (most : Nat) : Nat → List Pr
  | 0 => []
  | a + 1 => allTo most a ++ allAt most a
def allR (most : Int) : List Pr := if 1 ≤ most ∧ most ≤ 40 then allTo most.toNat (most.toNat + 1) else []
def hasP (xs : List Pr) (p : Pr) : Bool := xs.any (fun x => x == p)
def clashP (p : Pr) (first : Bool) (x : Pr) : Bool := (if first then x.b == p.b else x.a == p.a) && !(x == p)
def ownP (xs : List Pr) (p : Pr) (first : Bool) : Bool := !(xs.any (clashP p first)) && hasP xs p
def afterP (xs : List Pr) (first knows : Bool) : List Pr := xs.filter (fun p => ownP xs p first == knows)
/-- the answers from turn k on, n of them at most -/
def ansF (p : Pr) : Nat → Nat → List Pr → List Bool → Option (List Bool)
  | 0, _, _, _ => none
  | n + 1, k, xs, out => if ownP xs p (k % 2 == 0) then some (out ++ [true]) else ansF p n (k + 1) (afterP xs (k % 2 == 0) false) (out ++ [false])
def ansR (most : Int) (p : Pr) : Option (List Bool) := if prOk p && hasP (allR most) p then ansF p 100 0 (allR most) [] else none
def leftF : Nat → List Pr → List Bool → List Pr
  | _, xs, [] => xs
  | k, xs, b :: bs => leftF (k + 1) (afterP xs (k % 2 == 0) b) bs
def leftR (most : Int) (bs : List Bool) : List Pr := if allR most = [] ∨ 100 < bs.length then [] else leftF 0 (allR most) bs

theorem allAt_len (most a : Nat) : (allAt most a).length ≤ 2 := by unfold allAt; split <;> split <;> simp
theorem allTo_len (most a : Nat) : (allTo most a).length ≤ 2 * a := by
  induction a with
  | zero => exact Nat.le_refl _
  | succ a ih => have := allAt_len most a; show (allTo most a ++ allAt most a).length ≤ _; rw [List.length_append]; omega
theorem allR_len (most : Int) : (allR most).length ≤ 82 := by
  unfold allR; split
  · have := allTo_len most.toNat (most.toNat + 1); omega
  · simp
theorem afterP_len (xs : List Pr) (f k : Bool) : (afterP xs f k).length ≤ xs.length := List.length_filter_le _ _
theorem ansF_len (p : Pr) : ∀ (n k : Nat) (xs : List Pr) (out l : List Bool), ansF p n k xs out = some l → l.length ≤ out.length + n
  | 0, _, _, _, _, h => by cases h
  | n + 1, k, xs, out, l, h => by
    unfold ansF at h
    split at h
    · cases h; simp
    · have := ansF_len p n _ _ _ _ h; simp at this; omega
theorem leftF_len : ∀ (bs : List Bool) (k : Nat) (xs : List Pr), (leftF k xs bs).length ≤ xs.length
  | [], _, _ => Nat.le_refl _
  | _ :: bs, _, _ => Nat.le_trans (leftF_len bs _ _) (afterP_len _ _ _)

theorem take_oneP {xs : List Pr} {k : Nat} (hk : k < xs.length) : xs.take (k + 1) = xs.take k ++ [xs.getD k default] := by
  rw [List.take_add_one, List.getElem?_eq_getElem hk, List.getD_eq_getElem?_getD, List.getElem?_eq_getElem hk]; rfl

/-! sums and products -/
def sumRow (limit x : Nat) : Nat → Nat → List Pr
  | 0, _ => []
  | n + 1, y => if x + y ≤ limit then ⟨x, y⟩ :: sumRow limit x n (y + 1) else []
end Go.Proofs.Ytmcjimmebbkjcaa
