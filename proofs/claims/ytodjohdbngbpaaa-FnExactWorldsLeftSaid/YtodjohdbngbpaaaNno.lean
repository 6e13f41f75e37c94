/-
  toNodeS for seats that have no laws over bools: its answer as a row with its blocks. No condition but the readings.
-/
import Derived.Test.YtodjohdbngbpaaaZTerm
import Derived.Test.YtodjohdbngbpaaaZLib
namespace Go.Proofs.Ytodjohdbngbpaaa
open Go.RowKit Go.WideShapes
open Go Go.Deep

/-- v owns the nodes xs, in a block from lo to hi -/
def No (lo hi : Nat) (w : World) (v : Value) (xs : List Nd) : Prop := w.ownsRow lo 91 4 v xs.length (ndCells xs) ∧ ∀ k, v.ownBlock = some k → k < hi
/-- v reads as the nodes xs -/
def Nv (_lo _hi : Nat) (w : World) (v : Value) (xs : List Nd) : Prop := Ns w v xs
theorem No.keeps {lo hi : Nat} {w w' : World} {v : Value} {xs : List Nd} (h : No lo hi w v xs) (k : Keeps lo hi w w') : No lo hi w' v xs :=
  ⟨own_keeps h.1 fun q hq => k.block q (h.1.lt q hq).1 (h.2 q hq) (h.1.lt q hq).2, h.2⟩
theorem No.read {lo hi : Nat} {w : World} {v : Value} {xs : List Nd} (h : No lo hi w v xs) : Nv lo hi w v xs := Ns.of_own h.1
theorem toNodeS_no (v : Value) (xs : List Nd) (w : World) (hr : Ns w v xs) (hn : xs.length ≤ 1048576) :
    Calls Try.prog 21 #[v] w fun e w' => ∃ v', e = .returned v' ∧ No w.heap.size w'.heap.size w' v' xs ∧ Below w.heap.size w w' := by
  refine (toNodeS_any v xs w hr hn).mono ?_
  rintro e w' ⟨g, rfl, ho, hb⟩
  exact ⟨_, rfl, ⟨ho, fun k hk => (ho.lt k hk).2⟩, hb⟩
end Go.Proofs.Ytodjohdbngbpaaa
