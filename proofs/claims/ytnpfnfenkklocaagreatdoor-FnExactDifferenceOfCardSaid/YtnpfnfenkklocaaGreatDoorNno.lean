/-
  toNodeS for seats that have no laws over bools: its answer as a row with its blocks. No condition but the readings.
-/
import Derived.Test.YtnpfnfenkklocaaGreatDoorZTerm
import Derived.Test.YtnpfnfenkklocaaGreatDoorZLib
namespace Go.Proofs.YtnpfnfenkklocaaGreatDoor
open Go.RowKit Go.WideShapes
open Go Go.Deep

/-- v owns the nodes xs, in a block from lo to hi -/
def No (lo hi : Nat) (w : World) (v : Value) (xs : List Nd) : Prop := w.ownsRow lo 68 4 v xs.length (ndCells xs) ∧ ∀ k, v.ownBlock = some k → k < hi
/-- v reads as the nodes xs -/
def Nv (_lo _hi : Nat) (w : World) (v : Value) (xs : List Nd) : Prop := Ns w v xs
theorem No.keeps {lo hi : Nat} {w w' : World} {v : Value} {xs : List Nd} (h : No lo hi w v xs) (k : Keeps lo hi w w') : No lo hi w' v xs :=
  ⟨own_keeps h.1 fun q hq => k.block q (h.1.lt q hq).1 (h.2 q hq) (h.1.lt q hq).2, h.2⟩
theorem No.read {lo hi : Nat} {w : World} {v : Value} {xs : List Nd} (h : No lo hi w v xs) : Nv lo hi w v xs := Ns.of_own h.1
end Go.Proofs.YtnpfnfenkklocaaGreatDoor
