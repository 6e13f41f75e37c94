/-
  Several texts in one: Cls Bis. Conditions: as each theorem says.
-/
import Derived.Test.YtodjohdbngbpaaaGreatZSem
import Derived.Test.YtodjohdbngbpaaaGreatRmy
import Derived.Test.YtodjohdbngbpaaaGreatZMok
/-
  Classes of worlds, in mathematics: one step of the refinement, its steps until nothing changes, why they end. No program but its types' numbers.
-/
namespace Go.Proofs.YtodjohdbngbpaaaGreat
open Go.RowKit Go.WideShapes
open Go Go.Deep
set_option linter.unusedSimpArgs false

/-- the worlds of the block of w have the class x among theirs -/
def setB (m : Md) (c : List Int) (k w : Nat) : Nat → Bool := fun x => (List.range m.facts.length).any fun v => ((m.blocks.getD k []).getD v 0 == (m.blocks.getD k []).getD w 0) && (c.getD v 0 == (x : Int))
end Go.Proofs.YtodjohdbngbpaaaGreat

/-
  What is alike has the same truths: two models, worlds of which stand for each other. No program but its types' numbers.
-/
namespace Go.Proofs.YtodjohdbngbpaaaGreat
open Go.RowKit Go.WideShapes
open Go Go.Deep
set_option linter.unusedSimpArgs false

theorem allW_iff {m : Md} {q : Nat → Bool} : allW m q = true ↔ ∀ v, v < m.facts.length → q v = true := by
  unfold allW; rw [List.all_eq_true]; exact ⟨fun h v hv => h v (List.mem_range.2 hv), fun h v hv => h v (List.mem_range.1 hv)⟩
theorem blockW_iff {m : Md} {k w : Nat} {al tr : Nat → Bool} {want : Bool} : blockW m k al tr w want = true ↔ ∀ v, v < m.facts.length → al v = true → sameW m k v w = true → tr v = want := by
  unfold blockW
  rw [allW_iff]
  constructor
  · intro h v hv ha hs
    have := h v hv
    rw [ha, hs] at this
    simpa using this
  · intro h v hv
    cases ha : al v with
    | false => simp
    | true =>
      cases hs : sameW m k v w with
      | false => simp
      | true => simp [h v hv ha hs]
theorem stepA_iff {m : Md} {al : Nat → Bool} {i j : Nat} : stepA m al i j = true ↔ i < m.facts.length ∧ j < m.facts.length ∧ al j = true ∧ ∃ k, k < m.blocks.length ∧ sameW m k i j = true := by
  unfold stepA
  rw [near_same, Bool.and_eq_true, Bool.and_eq_true, Bool.and_eq_true, decide_eq_true_eq, decide_eq_true_eq, List.any_eq_true]
  constructor
  · rintro ⟨⟨⟨h1, h2⟩, h3⟩, k, hk, h4⟩
    exact ⟨h1, h2, h3, k, List.mem_range.1 hk, h4⟩
  · rintro ⟨h1, h2, h3, k, hk, h4⟩
    exact ⟨⟨⟨h1, h2⟩, h3⟩, k, List.mem_range.2 hk, h4⟩
end Go.Proofs.YtodjohdbngbpaaaGreat
