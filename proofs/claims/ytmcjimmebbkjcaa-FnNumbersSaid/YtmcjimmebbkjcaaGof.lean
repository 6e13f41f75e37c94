/-
  Contract of gridOf: the grid of a valid model.
-/
import Derived.Test.YtmcjimmebbkjcaaZReg
namespace Go.Proofs.Ytmcjimmebbkjcaa
open Go.RowKit Go.WideShapes
open Go Go.Deep

theorem Try.aggInt (w : World) : (isAgg 3).run Try.prog w = .ok false w := by kernel_rfl
theorem Try.gtrInt (x y : Operand) (n k : Int) (w : World) : (do eqGuard .gtr 3 x y (.int .i64 n) (.int .i64 k); binOp .gtr 3 (.int .i64 n) (.int .i64 k) : Sem Value).run Try.prog w = .ok (.bool (decide (k < n))) w := by kernel_rfl
theorem Try.lssInt (x y : Operand) (n k : Int) (w : World) : (do eqGuard .lss 3 x y (.int .i64 n) (.int .i64 k); binOp .lss 3 (.int .i64 n) (.int .i64 k) : Sem Value).run Try.prog w = .ok (.bool (decide (n < k))) w := by kernel_rfl
/-- the grid of a model -/
def gOf (m : Md) : List Int := gL m.facts.length m.blocks.length m.facts m.blocks m.actual
/-- a valid model -/
def mdOk (m : Md) : Bool :=
  decide (1 ≤ m.facts.length ∧ m.facts.length ≤ 16 ∧ 1 ≤ m.blocks.length ∧ m.blocks.length ≤ 3) && (List.range m.blocks.length).all (fun k => (m.blocks.getD k []).length == m.facts.length) && okNums m.facts.length m.facts m.blocks m.actual
theorem mdOk_size {m : Md} (h : ¬ (1 ≤ m.facts.length ∧ m.facts.length ≤ 16 ∧ 1 ≤ m.blocks.length ∧ m.blocks.length ≤ 3)) : mdOk m = false := by
  unfold mdOk; rw [decide_eq_false h]; rfl
theorem mdOk_row {m : Md} {k : Nat} (hk : k < m.blocks.length) (h : (m.blocks.getD k []).length ≠ m.facts.length) : mdOk m = false := by
  unfold mdOk
  rw [all_false (p := fun k => (m.blocks.getD k []).length == m.facts.length) (by simpa using h) hk]
  simp
theorem mdOk_nums {m : Md} (h : 1 ≤ m.facts.length ∧ m.facts.length ≤ 16 ∧ 1 ≤ m.blocks.length ∧ m.blocks.length ≤ 3) (h2 : (List.range m.blocks.length).all (fun k => (m.blocks.getD k []).length == m.facts.length) = true) : mdOk m = okNums m.facts.length m.facts m.blocks m.actual := by
  unfold mdOk; rw [decide_eq_true h, h2]; rfl
/-- an answer: a grid and a bool -/
def GdAns (w : World) (r : Option (List Int)) (e : Ending) (w' : World) : Prop := e = .returned (.tuple #[.agg (ints (r.getD (gL 0 0 [] [] 0))).toArray, .bool r.isSome]) ∧ Below w.heap.size w w'
theorem small_take {f : List Int} {bs : List (List Int)} {k : Nat} (hf : f.length ≤ 16) (h : ∀ j, j < k → (bs.getD j []).length ≤ 16) : small f (bs.take k) := by
  refine ⟨hf, fun j => ?_⟩
  rcases Nat.lt_or_ge j k with hj | hj
  · rw [List.getD_eq_getElem?_getD, List.getElem?_take_of_lt hj, ← List.getD_eq_getElem?_getD]; exact h j hj
  · rw [List.getD_eq_getElem?_getD, List.getElem?_eq_none (by rw [List.length_take]; omega)]; simp
theorem take_getD {bs : List (List Int)} {k j : Nat} (h : j < k) : (bs.take k).getD j [] = bs.getD j [] := by
  rw [List.getD_eq_getElem?_getD, List.getElem?_take_of_lt h, ← List.getD_eq_getElem?_getD]
theorem take_getD_none {bs : List (List Int)} {k j : Nat} (h : k ≤ j) : (bs.take k).getD j [] = [] := by
  rw [List.getD_eq_getElem?_getD, List.getElem?_eq_none (by rw [List.length_take]; omega)]; rfl

end Go.Proofs.Ytmcjimmebbkjcaa
