/-
  The walks of the laws FnExactModelOk, FnExactCountWorlds: they return true and write nothing that was there. No condition.
-/
import Derived.Test.YtegmoojjffkacaaSok
namespace Go.Proofs.Ytegmoojjffkacaa
open Go.RowKit Go.WideShapes
open Go Go.Deep

theorem Mv.form {lo hi : Nat} {w : World} {v : Value} {m : Md} (h : Mv lo hi w v m) : ∃ fa fc ba bc, v = .agg #[.slice fa m.facts.length fc, .slice ba m.blocks.length bc, .int .i64 m.actual] := by
  obtain ⟨fv, bv, rfl, hf, hb⟩ := h
  obtain ⟨fa, fc, rfl⟩ := hf.form
  obtain ⟨ba, bc, rfl, _⟩ := hb.parts
  exact ⟨fa, fc, ba, bc, rfl⟩
theorem budget_big {n : Nat} (h : 1048576 < n) : budget 1048576 n = -1 := by unfold budget; rw [if_pos (by omega)]
theorem budget_small {n : Nat} (h : n ≤ 1048576) : budget 1048576 n = 1048576 - n := by unfold budget; rw [if_neg (by omega)]

end Go.Proofs.Ytegmoojjffkacaa
