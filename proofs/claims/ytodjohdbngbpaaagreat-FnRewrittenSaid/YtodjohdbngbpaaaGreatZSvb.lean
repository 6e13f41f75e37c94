/-
  Several texts in one: Svb Svc Tcl. Conditions: as each theorem says.
-/
import Derived.Test.YtodjohdbngbpaaaGreatZSem
import Derived.Test.YtodjohdbngbpaaaGreatZForm
import Derived.Test.YtodjohdbngbpaaaGreatZSet
import Derived.Test.YtodjohdbngbpaaaGreatTru
import Derived.Test.YtodjohdbngbpaaaGreatZMok
/-
  Contract of spec.l04Eval for any node of a valid formula; and both sides' truth is the same list. Conditions: the model and the formula are valid, the formula's agents are the model's, there is a bool for each world.
-/
namespace Go.Proofs.YtodjohdbngbpaaaGreat
open Go.RowKit Go.WideShapes
open Go Go.Deep
set_option linter.unusedSimpArgs false

theorem evOk_parts {m : Md} {xs : List Nd} (h : evOk m xs = true) : mdOk m = true ∧ formOk xs = true ∧ agentsOk xs m.blocks.length = true := by
  unfold evOk at h; rw [Bool.and_eq_true, Bool.and_eq_true] at h; exact ⟨h.1.1, h.1.2, h.2⟩
end Go.Proofs.YtodjohdbngbpaaaGreat

/-
  Contracts of spec.l04Ok and spec.l04Truth. Condition of the latter: the formula can be evaluated in the model.
-/
namespace Go.Proofs.YtodjohdbngbpaaaGreat
open Go.RowKit Go.WideShapes
open Go Go.Deep
set_option linter.unusedSimpArgs false

end Go.Proofs.YtodjohdbngbpaaaGreat

/-
  What the laws of chapter 5 answer, in mathematics; slices.Clone of bools; truthIn in a form for its callers. No condition but the readings.
-/
namespace Go.Proofs.YtodjohdbngbpaaaGreat
open Go.RowKit Go.WideShapes
open Go Go.Deep
set_option linter.unusedSimpArgs false
section
variable {P : Program}
/-- guarded: two structs or arrays are compared -/
theorem wpList_eqAG {ops : Array Oper} {rest : List Oper} {o : Oper} {a : Act} {w : World} {Q : Exit → Act → World → Prop} {g : Nat × Bool} (hgu : o.guard = some g) (hw : Region.wanted o (yielded ops a.tmps) = true) (T : TypeId) (x y : Operand) (R : TypeId) (ho : o.op = .binOp .eql T x y R)
    (xs ys : Array Value) (hx : a.eval x = .agg xs) (hy : a.eval y = .agg ys) (hg : P.eqGuardType P.depth T = false) (b : Bool) (hr : (Op.equalIn 10000 T (.agg xs) (.agg ys)).run P w = .ok b w)
    (h : wpList P ops Q rest (a.put o.dst (.bool b)) w) : wpList P ops Q (o :: rest) a w := by
  refine wpList_opG hgu hw (.bool b) ?_ h
  unfold execOp
  simp only [ho, hx, hy, Sem.run_bind, run_eqGuard_agg w _ _ _ _ _ _ hg, run_eql_struct, hr, Result.andThen_ok, Sem.run_pure]
end

def holdsR (m : Md) (xs : List Nd) : Bool := evOk m xs && evP m xs m.actual.toNat
def whereR (m : Md) (xs : List Nd) : List Int := if evOk m xs then nums (lst (evP m xs) 16) else []
def equivR (m : Md) (xs ys : List Nd) : Bool := evOk m xs && evOk m ys && eqB (evP m xs) (evP m ys)
theorem ok_len {m : Md} {xs : List Nd} (h : evOk m xs = true) : 1 ≤ m.facts.length ∧ m.facts.length ≤ 16 := ⟨(mdOk_parts (evOk_parts h).1).1, (mdOk_parts (evOk_parts h).1).2.1⟩
theorem evP_in {m : Md} {xs : List Nd} (h : evOk m xs = true) {i : Nat} (hi : evP m xs i = true) : i < m.facts.length := evI_in _ m i (ok_len h).2 hi
/-- truthIn, for its callers: a grid G and a set P -/
theorem truthIn_gen (lo hi : Nat) (v v2 : Value) (m : Md) (xs : List Nd) (w : World) (hr : Mv lo hi w v m) (hhi : hi ≤ w.heap.size) (hr2 : Ns w v2 xs) :
    ∃ (G : List Int) (P : Nat → Bool), (ints G).length = 67 ∧ (evOk m xs = true → (ints G)[0]? = some (.int .i64 m.facts.length) ∧ (ints G)[66]? = some (.int .i64 m.actual) ∧ P = evP m xs ∧ G = gM m) ∧ (evOk m xs = false → P = fun _ => false) ∧
      ∀ W, Below w.heap.size w W → Calls Tryz.prog 60 #[v, v2] W fun e w' => e = .returned (.tuple #[.agg (ints G).toArray, .agg (bL P).toArray, .bool (evOk m xs)]) ∧ Below W.heap.size W w' := by
  have K := fun W (h : Below w.heap.size w W) => truthIn_any lo hi v v2 m xs W (hr.keeps (Keeps.of_all h)) (Nat.le_trans hhi h.size) (hr2.below h (Nat.le_refl _))
  unfold TrAns at K
  cases hok : evOk m xs with
  | true =>
    rw [hok] at K
    have hs := md_small (evOk_parts hok).1
    refine ⟨gM m, evP m xs, by rw [ints_len]; exact gL_len hs, fun _ => ⟨rfl, ?_, rfl, rfl⟩, fun h => absurd h (by decide), fun W h => K W h⟩
    unfold ints gM
    rw [List.getElem?_map, gL_66 hs]; rfl
  | false =>
    rw [hok] at K
    exact ⟨gL 0 0 [] [] 0, fun _ => false, rfl, fun h => absurd h (by decide), fun _ => rfl, fun W h => K W h⟩
end Go.Proofs.YtodjohdbngbpaaaGreat
