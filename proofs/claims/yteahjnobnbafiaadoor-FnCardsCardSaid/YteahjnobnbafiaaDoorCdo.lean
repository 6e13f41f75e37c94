/-
  Contracts of spec.l13Hidden, HidesAll, IsSafe. Condition of the first: hands below 128.
-/
import Derived.Test.YteahjnobnbafiaaDoorCdl
namespace Go.Proofs.YteahjnobnbafiaaDoor
open Go.RowKit Go.WideShapes
open Go Go.Deep
set_option linter.unusedSimpArgs false

theorem fit_step {third : Int} {l : List Int} {k : Nat} (hk : k < l.length) : fitL third (l.take (k + 1)) = fitL third (l.take k) ++ (if andI (l.getD k 0) third = 0 then [l.getD k 0] else []) := by
  have e : l.take (k + 1) = l.take k ++ [l.getD k 0] := by
    rw [List.take_add_one, List.getElem?_eq_getElem hk, List.getD_eq_getElem?_getD, List.getElem?_eq_getElem hk]; rfl
  unfold fitL
  rw [e, List.filter_append]
  clear e
  generalize l.getD k 0 = y
  by_cases h : andI y third = 0
  · rw [if_pos h]; simp [h]
  · rw [if_neg h]; simp [h]
/-- what the loop has: the cards in common, those in some hand, whether there was one -/
def hidAt (third : Int) (l : List Int) (all k : Nat) (c s : Nat) (m : Bool) : Prop := c = commonL third (l.take k) all ∧ s = someL third (l.take k) ∧ m = !(fitL third (l.take k)).isEmpty
theorem hid_0 (third : Int) (l : List Int) (all : Nat) : hidAt third l all 0 all 0 false := ⟨rfl, rfl, rfl⟩
theorem hid_yes {third : Int} {l : List Int} {all k c s : Nat} {m : Bool} {X : Nat} (hk : k < l.length) (hX : l.getD k 0 = (X : Int)) (h0 : andI (X : Int) third = 0) (h : hidAt third l all k c s m) : hidAt third l all (k + 1) (c &&& X) (s ||| X) true := by
  obtain ⟨rfl, rfl, rfl⟩ := h
  have e := fit_step (third := third) hk
  rw [hX, if_pos h0] at e
  unfold hidAt commonL someL
  rw [e, List.foldl_append, List.foldl_append]
  refine ⟨?_, ?_, ?_⟩
  · simp
  · simp
  · cases fitL third (l.take k) <;> rfl
theorem hid_no {third : Int} {l : List Int} {all k c s : Nat} {m : Bool} {X : Nat} (hk : k < l.length) (hX : l.getD k 0 = (X : Int)) (h0 : andI (X : Int) third ≠ 0) (h : hidAt third l all k c s m) : hidAt third l all (k + 1) c s m := by
  obtain ⟨rfl, rfl, rfl⟩ := h
  have e := fit_step (third := third) hk
  rw [hX, if_neg h0, List.append_nil] at e
  unfold hidAt commonL someL
  rw [e]
  exact ⟨rfl, rfl, rfl⟩
theorem hid_end {third : Int} {l : List Int} {all k c s : Nat} {m : Bool} {T : Nat} (hT : third = (T : Int)) (hk : ¬ k < l.length) (h : hidAt third l all k c s m) : hiddenR l all third = (!m || (c == 0 && (s ||| T) == all)) := by
  obtain ⟨rfl, rfl, rfl⟩ := h
  rw [List.take_of_length_le (by omega)]
  unfold hiddenR
  rw [hT, Int.toNat_natCast]
  simp

end Go.Proofs.YteahjnobnbafiaaDoor
