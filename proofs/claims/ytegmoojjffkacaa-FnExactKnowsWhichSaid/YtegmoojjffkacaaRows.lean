/-
  No cell of these rows narrows 'for every input' (looked for: loops, veiled, ifaces, maps, wideKeys, modest, calm, conditions, laid).
  DERIVED. THE GIVEN ROWS OF THIS SEAT. 12 by the template 'for every input the law returns true; each argument reads behind the call as it read before'; 0 by the template 'total and deterministic' (their statements: YtegmoojjffkacaaTotals.lean).
  GIVEN WITH THE SEED: the statements are not yours to turn. If you find one false, say at which input.
  Laid BY PROGRAM, IN A SANDBOX (cutbox-rows.mjs): the forced cells as the released guide's own fill.sh prints them over the translation ec97980afb05dfa9… (all of the seat's roots in one cut). By AI agents, Wed Nov 11 2026. No macro, syntax, notation, axiom, sorry.
-/
import Derived.Test.YtegmoojjffkacaaChecked
import GoSem.Claim
import GoSem.ClaimJoined
import GoSem.ClaimMapViews
import Derived.JoinedTies
import Derived.KernelRfl
namespace Go.Proofs.Ytegmoojjffkacaa
/- THE CELL 'sum', in the pinned program and in every row, IS THE sha256 OF THE DUMP (.gsa) THAT YtegmoojjffkacaaProg.lean LOADS. Nothing in Lean hashes anything: it is a label: what it is worth is what the hold of that sum in a sandbox is worth. -/
noncomputable def Try.pinned : Pinned := { name := "ytegmoojjffkacaa", sum := "ec97980afb05dfa9db4e649407b4f868d46ec93393c9c1f558582cd1acb3712c", checked := Try.checked }
namespace Rows
def none {H : Type} : Left H := { results := [], args := [] }

/-- 'laws.FnExactMoveTo': WHATEVER THE INPUT: true; the input reads as it did. -/
def fnExactMoveToSpec : ChangeSpec := { name := "fnExactMoveTo", fn := fun _ => fun
  | [d1, d2] => { results := [.lit (.bool true)], args := [d1, d2] }
  | _ => none }
def fnExactMoveToRow : OpenClaim := { program := "ytegmoojjffkacaa", sum := "ec97980afb05dfa9db4e649407b4f868d46ec93393c9c1f558582cd1acb3712c", func := "loop.example/g00945/laws.FnExactMoveTo", spec := "fnExactMoveTo", apart := false }
def FnExactMoveToSaid : Prop := fnExactMoveToRow.holds Try.pinned (OpenSpec.ofChange fnExactMoveToSpec)

/-- ITS FALSE NEIGHBOUR: 'it returns false'. Refute it at one input. -/
def fnExactMoveToWrong : ChangeSpec := { name := "fnExactMoveTo", fn := fun _ => fun
  | [d1, d2] => { results := [.lit (.bool false)], args := [d1, d2] }
  | _ => none }
def FnExactMoveToWrongFalsely : Prop := fnExactMoveToRow.holds Try.pinned (OpenSpec.ofChange fnExactMoveToWrong)

/-- 'laws.FnExactRestrictModel': WHATEVER THE INPUT: true; the input reads as it did. -/
def fnExactRestrictModelSpec : ChangeSpec := { name := "fnExactRestrictModel", fn := fun _ => fun
  | [d1, d2] => { results := [.lit (.bool true)], args := [d1, d2] }
  | _ => none }
def fnExactRestrictModelRow : OpenClaim := { program := "ytegmoojjffkacaa", sum := "ec97980afb05dfa9db4e649407b4f868d46ec93393c9c1f558582cd1acb3712c", func := "loop.example/g00945/laws.FnExactRestrictModel", spec := "fnExactRestrictModel", apart := false }
def FnExactRestrictModelSaid : Prop := fnExactRestrictModelRow.holds Try.pinned (OpenSpec.ofChange fnExactRestrictModelSpec)

/-- ITS FALSE NEIGHBOUR: 'it returns false'. Refute it at one input. -/
def fnExactRestrictModelWrong : ChangeSpec := { name := "fnExactRestrictModel", fn := fun _ => fun
  | [d1, d2] => { results := [.lit (.bool false)], args := [d1, d2] }
  | _ => none }
def FnExactRestrictModelWrongFalsely : Prop := fnExactRestrictModelRow.holds Try.pinned (OpenSpec.ofChange fnExactRestrictModelWrong)

/-- 'laws.FnExactReachedFrom': WHATEVER THE INPUT: true; the input reads as it did. -/
def fnExactReachedFromSpec : ChangeSpec := { name := "fnExactReachedFrom", fn := fun _ => fun
  | [d1, d2] => { results := [.lit (.bool true)], args := [d1, d2] }
  | _ => none }
def fnExactReachedFromRow : OpenClaim := { program := "ytegmoojjffkacaa", sum := "ec97980afb05dfa9db4e649407b4f868d46ec93393c9c1f558582cd1acb3712c", func := "loop.example/g00945/laws.FnExactReachedFrom", spec := "fnExactReachedFrom", apart := false }
def FnExactReachedFromSaid : Prop := fnExactReachedFromRow.holds Try.pinned (OpenSpec.ofChange fnExactReachedFromSpec)

/-- ITS FALSE NEIGHBOUR: 'it returns false'. Refute it at one input. -/
def fnExactReachedFromWrong : ChangeSpec := { name := "fnExactReachedFrom", fn := fun _ => fun
  | [d1, d2] => { results := [.lit (.bool false)], args := [d1, d2] }
  | _ => none }
def FnExactReachedFromWrongFalsely : Prop := fnExactReachedFromRow.holds Try.pinned (OpenSpec.ofChange fnExactReachedFromWrong)

/-- 'laws.FnExactFreeModel': WHATEVER THE INPUT: true; the input reads as it did. -/
def fnExactFreeModelSpec : ChangeSpec := { name := "fnExactFreeModel", fn := fun _ => fun
  | [d1, d2] => { results := [.lit (.bool true)], args := [d1, d2] }
  | _ => none }
def fnExactFreeModelRow : OpenClaim := { program := "ytegmoojjffkacaa", sum := "ec97980afb05dfa9db4e649407b4f868d46ec93393c9c1f558582cd1acb3712c", func := "loop.example/g00945/laws.FnExactFreeModel", spec := "fnExactFreeModel", apart := false }
def FnExactFreeModelSaid : Prop := fnExactFreeModelRow.holds Try.pinned (OpenSpec.ofChange fnExactFreeModelSpec)

/-- ITS FALSE NEIGHBOUR: 'it returns false'. Refute it at one input. -/
def fnExactFreeModelWrong : ChangeSpec := { name := "fnExactFreeModel", fn := fun _ => fun
  | [d1, d2] => { results := [.lit (.bool false)], args := [d1, d2] }
  | _ => none }
def FnExactFreeModelWrongFalsely : Prop := fnExactFreeModelRow.holds Try.pinned (OpenSpec.ofChange fnExactFreeModelWrong)

/-- 'laws.FnExactTellFact': WHATEVER THE INPUT: true; the input reads as it did. -/
def fnExactTellFactSpec : ChangeSpec := { name := "fnExactTellFact", fn := fun _ => fun
  | [d1, d2, d3] => { results := [.lit (.bool true)], args := [d1, d2, d3] }
  | _ => none }
def fnExactTellFactRow : OpenClaim := { program := "ytegmoojjffkacaa", sum := "ec97980afb05dfa9db4e649407b4f868d46ec93393c9c1f558582cd1acb3712c", func := "loop.example/g00945/laws.FnExactTellFact", spec := "fnExactTellFact", apart := false }
def FnExactTellFactSaid : Prop := fnExactTellFactRow.holds Try.pinned (OpenSpec.ofChange fnExactTellFactSpec)

/-- ITS FALSE NEIGHBOUR: 'it returns false'. Refute it at one input. -/
def fnExactTellFactWrong : ChangeSpec := { name := "fnExactTellFact", fn := fun _ => fun
  | [d1, d2, d3] => { results := [.lit (.bool false)], args := [d1, d2, d3] }
  | _ => none }
def FnExactTellFactWrongFalsely : Prop := fnExactTellFactRow.holds Try.pinned (OpenSpec.ofChange fnExactTellFactWrong)

/-- 'laws.FnModels': WHATEVER THE INPUT: true; the input reads as it did. -/
def fnModelsSpec : ChangeSpec := { name := "fnModels", fn := fun _ => fun
  | [d] => { results := [.lit (.bool true)], args := [d] }
  | _ => none }
def fnModelsRow : OpenClaim := { program := "ytegmoojjffkacaa", sum := "ec97980afb05dfa9db4e649407b4f868d46ec93393c9c1f558582cd1acb3712c", func := "loop.example/g00945/laws.FnModels", spec := "fnModels", unfollowed := true, recurses := true, apart := false }
def FnModelsSaid : Prop := fnModelsRow.holds Try.pinned (OpenSpec.ofChange fnModelsSpec)

/-- ITS FALSE NEIGHBOUR: 'it returns false'. Refute it at one input. -/
def fnModelsWrong : ChangeSpec := { name := "fnModels", fn := fun _ => fun
  | [d] => { results := [.lit (.bool false)], args := [d] }
  | _ => none }
def FnModelsWrongFalsely : Prop := fnModelsRow.holds Try.pinned (OpenSpec.ofChange fnModelsWrong)

/-- 'laws.FnExactTruthOf': WHATEVER THE INPUT: true; the input reads as it did. -/
def fnExactTruthOfSpec : ChangeSpec := { name := "fnExactTruthOf", fn := fun _ => fun
  | [d1, d2] => { results := [.lit (.bool true)], args := [d1, d2] }
  | _ => none }
def fnExactTruthOfRow : OpenClaim := { program := "ytegmoojjffkacaa", sum := "ec97980afb05dfa9db4e649407b4f868d46ec93393c9c1f558582cd1acb3712c", func := "loop.example/g00945/laws.FnExactTruthOf", spec := "fnExactTruthOf", unfollowed := true, recurses := true, apart := false }
def FnExactTruthOfSaid : Prop := fnExactTruthOfRow.holds Try.pinned (OpenSpec.ofChange fnExactTruthOfSpec)

/-- ITS FALSE NEIGHBOUR: 'it returns false'. Refute it at one input. -/
def fnExactTruthOfWrong : ChangeSpec := { name := "fnExactTruthOf", fn := fun _ => fun
  | [d1, d2] => { results := [.lit (.bool false)], args := [d1, d2] }
  | _ => none }
def FnExactTruthOfWrongFalsely : Prop := fnExactTruthOfRow.holds Try.pinned (OpenSpec.ofChange fnExactTruthOfWrong)

/-- 'laws.FnExactHolds': WHATEVER THE INPUT: true; the input reads as it did. -/
def fnExactHoldsSpec : ChangeSpec := { name := "fnExactHolds", fn := fun _ => fun
  | [d1, d2] => { results := [.lit (.bool true)], args := [d1, d2] }
  | _ => none }
def fnExactHoldsRow : OpenClaim := { program := "ytegmoojjffkacaa", sum := "ec97980afb05dfa9db4e649407b4f868d46ec93393c9c1f558582cd1acb3712c", func := "loop.example/g00945/laws.FnExactHolds", spec := "fnExactHolds", unfollowed := true, recurses := true, apart := false }
def FnExactHoldsSaid : Prop := fnExactHoldsRow.holds Try.pinned (OpenSpec.ofChange fnExactHoldsSpec)

/-- ITS FALSE NEIGHBOUR: 'it returns false'. Refute it at one input. -/
def fnExactHoldsWrong : ChangeSpec := { name := "fnExactHolds", fn := fun _ => fun
  | [d1, d2] => { results := [.lit (.bool false)], args := [d1, d2] }
  | _ => none }
def FnExactHoldsWrongFalsely : Prop := fnExactHoldsRow.holds Try.pinned (OpenSpec.ofChange fnExactHoldsWrong)

/-- 'laws.FnExactHoldsEverywhere': WHATEVER THE INPUT: true; the input reads as it did. -/
def fnExactHoldsEverywhereSpec : ChangeSpec := { name := "fnExactHoldsEverywhere", fn := fun _ => fun
  | [d1, d2] => { results := [.lit (.bool true)], args := [d1, d2] }
  | _ => none }
def fnExactHoldsEverywhereRow : OpenClaim := { program := "ytegmoojjffkacaa", sum := "ec97980afb05dfa9db4e649407b4f868d46ec93393c9c1f558582cd1acb3712c", func := "loop.example/g00945/laws.FnExactHoldsEverywhere", spec := "fnExactHoldsEverywhere", unfollowed := true, recurses := true, apart := false }
def FnExactHoldsEverywhereSaid : Prop := fnExactHoldsEverywhereRow.holds Try.pinned (OpenSpec.ofChange fnExactHoldsEverywhereSpec)

/-- ITS FALSE NEIGHBOUR: 'it returns false'. Refute it at one input. -/
def fnExactHoldsEverywhereWrong : ChangeSpec := { name := "fnExactHoldsEverywhere", fn := fun _ => fun
  | [d1, d2] => { results := [.lit (.bool false)], args := [d1, d2] }
  | _ => none }
def FnExactHoldsEverywhereWrongFalsely : Prop := fnExactHoldsEverywhereRow.holds Try.pinned (OpenSpec.ofChange fnExactHoldsEverywhereWrong)

/-- 'laws.FnExactWorldsWhere': WHATEVER THE INPUT: true; the input reads as it did. -/
def fnExactWorldsWhereSpec : ChangeSpec := { name := "fnExactWorldsWhere", fn := fun _ => fun
  | [d1, d2] => { results := [.lit (.bool true)], args := [d1, d2] }
  | _ => none }
def fnExactWorldsWhereRow : OpenClaim := { program := "ytegmoojjffkacaa", sum := "ec97980afb05dfa9db4e649407b4f868d46ec93393c9c1f558582cd1acb3712c", func := "loop.example/g00945/laws.FnExactWorldsWhere", spec := "fnExactWorldsWhere", unfollowed := true, recurses := true, apart := false }
def FnExactWorldsWhereSaid : Prop := fnExactWorldsWhereRow.holds Try.pinned (OpenSpec.ofChange fnExactWorldsWhereSpec)

/-- ITS FALSE NEIGHBOUR: 'it returns false'. Refute it at one input. -/
def fnExactWorldsWhereWrong : ChangeSpec := { name := "fnExactWorldsWhere", fn := fun _ => fun
  | [d1, d2] => { results := [.lit (.bool false)], args := [d1, d2] }
  | _ => none }
def FnExactWorldsWhereWrongFalsely : Prop := fnExactWorldsWhereRow.holds Try.pinned (OpenSpec.ofChange fnExactWorldsWhereWrong)

/-- 'laws.FnExactAreEquivalentIn': WHATEVER THE INPUT: true; the input reads as it did. -/
def fnExactAreEquivalentInSpec : ChangeSpec := { name := "fnExactAreEquivalentIn", fn := fun _ => fun
  | [d1, d2, d3] => { results := [.lit (.bool true)], args := [d1, d2, d3] }
  | _ => none }
def fnExactAreEquivalentInRow : OpenClaim := { program := "ytegmoojjffkacaa", sum := "ec97980afb05dfa9db4e649407b4f868d46ec93393c9c1f558582cd1acb3712c", func := "loop.example/g00945/laws.FnExactAreEquivalentIn", spec := "fnExactAreEquivalentIn", unfollowed := true, recurses := true, apart := false }
def FnExactAreEquivalentInSaid : Prop := fnExactAreEquivalentInRow.holds Try.pinned (OpenSpec.ofChange fnExactAreEquivalentInSpec)

/-- ITS FALSE NEIGHBOUR: 'it returns false'. Refute it at one input. -/
def fnExactAreEquivalentInWrong : ChangeSpec := { name := "fnExactAreEquivalentIn", fn := fun _ => fun
  | [d1, d2, d3] => { results := [.lit (.bool false)], args := [d1, d2, d3] }
  | _ => none }
def FnExactAreEquivalentInWrongFalsely : Prop := fnExactAreEquivalentInRow.holds Try.pinned (OpenSpec.ofChange fnExactAreEquivalentInWrong)

/-- 'laws.FnExactKnowsWhich': WHATEVER THE INPUT: true; the input reads as it did. -/
def fnExactKnowsWhichSpec : ChangeSpec := { name := "fnExactKnowsWhich", fn := fun _ => fun
  | [d1, d2] => { results := [.lit (.bool true)], args := [d1, d2] }
  | _ => none }
def fnExactKnowsWhichRow : OpenClaim := { program := "ytegmoojjffkacaa", sum := "ec97980afb05dfa9db4e649407b4f868d46ec93393c9c1f558582cd1acb3712c", func := "loop.example/g00945/laws.FnExactKnowsWhich", spec := "fnExactKnowsWhich", unfollowed := true, recurses := true, apart := false }
def FnExactKnowsWhichSaid : Prop := fnExactKnowsWhichRow.holds Try.pinned (OpenSpec.ofChange fnExactKnowsWhichSpec)

/-- ITS FALSE NEIGHBOUR: 'it returns false'. Refute it at one input. -/
def fnExactKnowsWhichWrong : ChangeSpec := { name := "fnExactKnowsWhich", fn := fun _ => fun
  | [d1, d2] => { results := [.lit (.bool false)], args := [d1, d2] }
  | _ => none }
def FnExactKnowsWhichWrongFalsely : Prop := fnExactKnowsWhichRow.holds Try.pinned (OpenSpec.ofChange fnExactKnowsWhichWrong)

/- THE SECOND FORM. 'bulk': how many values and letters a reading holds, each counted each time it is reached (what is shared counts as often as it is met; a slice's spare places count too). A statement '..UptoSaid' is the law's where the arguments, and the package variables that the reading takes, are together of bulk at most 1048576: NARROWER than '..Said'. Prove '..Said' where nothing that the law and all that it calls make is longer than what came in: it says more and counts as full. Else prove '..UptoSaid'. A law counts once. -/
mutual
def uptoBulk {H : Type} : DataW H → Nat
  | .lit (.string bytes) => bytes.length + 1
  | .lit _ => 1
  | .nil => 1
  | .ptr d => uptoBulk d + 1
  | .slice elems spare => uptoBulkAll elems + uptoBulkAll spare + 1
  | .agg parts => uptoBulkAll parts + 1
  | .iface _ d => uptoBulk d + 1
  | .map entries => uptoBulkEntries entries + 1
  | .held _ => 1
def uptoBulkAll {H : Type} : List (DataW H) → Nat
  | [] => 0
  | d :: r => uptoBulk d + uptoBulkAll r
def uptoBulkEntries {H : Type} : List (Lit × DataW H) → Nat
  | [] => 0
  | x :: r => uptoBulkEntry x + uptoBulkEntries r
def uptoBulkEntry {H : Type} : Lit × DataW H → Nat
  | (.string bytes, d) => bytes.length + uptoBulk d + 1
  | (_, d) => uptoBulk d + 1
 end
def uptoSmall : (H : Type) → List (DataW H) → Bool := fun _ ds => decide (uptoBulkAll ds ≤ 1048576)
def OpenSpec.upto (s : _root_.Go.ChangeSpec) : _root_.Go.OpenSpec := { _root_.Go.OpenSpec.ofChange s with cond := some uptoSmall }

/-- 'laws.FnExactMoveTo', WHERE WHAT IT READS IS OF BULK AT MOST 1048576: true; the input reads as it did. -/
def fnExactMoveToUptoRow : OpenClaim := { program := "ytegmoojjffkacaa", sum := "ec97980afb05dfa9db4e649407b4f868d46ec93393c9c1f558582cd1acb3712c", func := "loop.example/g00945/laws.FnExactMoveTo", spec := "fnExactMoveTo", apart := false, narrowed := true }
def FnExactMoveToUptoSaid : Prop := fnExactMoveToUptoRow.holds Try.pinned (OpenSpec.upto fnExactMoveToSpec)

/-- 'laws.FnExactRestrictModel', WHERE WHAT IT READS IS OF BULK AT MOST 1048576: true; the input reads as it did. -/
def fnExactRestrictModelUptoRow : OpenClaim := { program := "ytegmoojjffkacaa", sum := "ec97980afb05dfa9db4e649407b4f868d46ec93393c9c1f558582cd1acb3712c", func := "loop.example/g00945/laws.FnExactRestrictModel", spec := "fnExactRestrictModel", apart := false, narrowed := true }
def FnExactRestrictModelUptoSaid : Prop := fnExactRestrictModelUptoRow.holds Try.pinned (OpenSpec.upto fnExactRestrictModelSpec)

/-- 'laws.FnExactReachedFrom', WHERE WHAT IT READS IS OF BULK AT MOST 1048576: true; the input reads as it did. -/
def fnExactReachedFromUptoRow : OpenClaim := { program := "ytegmoojjffkacaa", sum := "ec97980afb05dfa9db4e649407b4f868d46ec93393c9c1f558582cd1acb3712c", func := "loop.example/g00945/laws.FnExactReachedFrom", spec := "fnExactReachedFrom", apart := false, narrowed := true }
def FnExactReachedFromUptoSaid : Prop := fnExactReachedFromUptoRow.holds Try.pinned (OpenSpec.upto fnExactReachedFromSpec)

/-- 'laws.FnExactFreeModel', WHERE WHAT IT READS IS OF BULK AT MOST 1048576: true; the input reads as it did. -/
def fnExactFreeModelUptoRow : OpenClaim := { program := "ytegmoojjffkacaa", sum := "ec97980afb05dfa9db4e649407b4f868d46ec93393c9c1f558582cd1acb3712c", func := "loop.example/g00945/laws.FnExactFreeModel", spec := "fnExactFreeModel", apart := false, narrowed := true }
def FnExactFreeModelUptoSaid : Prop := fnExactFreeModelUptoRow.holds Try.pinned (OpenSpec.upto fnExactFreeModelSpec)

/-- 'laws.FnExactTellFact', WHERE WHAT IT READS IS OF BULK AT MOST 1048576: true; the input reads as it did. -/
def fnExactTellFactUptoRow : OpenClaim := { program := "ytegmoojjffkacaa", sum := "ec97980afb05dfa9db4e649407b4f868d46ec93393c9c1f558582cd1acb3712c", func := "loop.example/g00945/laws.FnExactTellFact", spec := "fnExactTellFact", apart := false, narrowed := true }
def FnExactTellFactUptoSaid : Prop := fnExactTellFactUptoRow.holds Try.pinned (OpenSpec.upto fnExactTellFactSpec)

/-- 'laws.FnModels', WHERE WHAT IT READS IS OF BULK AT MOST 1048576: true; the input reads as it did. -/
def fnModelsUptoRow : OpenClaim := { program := "ytegmoojjffkacaa", sum := "ec97980afb05dfa9db4e649407b4f868d46ec93393c9c1f558582cd1acb3712c", func := "loop.example/g00945/laws.FnModels", spec := "fnModels", unfollowed := true, recurses := true, apart := false, narrowed := true }
def FnModelsUptoSaid : Prop := fnModelsUptoRow.holds Try.pinned (OpenSpec.upto fnModelsSpec)

/-- 'laws.FnExactTruthOf', WHERE WHAT IT READS IS OF BULK AT MOST 1048576: true; the input reads as it did. -/
def fnExactTruthOfUptoRow : OpenClaim := { program := "ytegmoojjffkacaa", sum := "ec97980afb05dfa9db4e649407b4f868d46ec93393c9c1f558582cd1acb3712c", func := "loop.example/g00945/laws.FnExactTruthOf", spec := "fnExactTruthOf", unfollowed := true, recurses := true, apart := false, narrowed := true }
def FnExactTruthOfUptoSaid : Prop := fnExactTruthOfUptoRow.holds Try.pinned (OpenSpec.upto fnExactTruthOfSpec)

/-- 'laws.FnExactHolds', WHERE WHAT IT READS IS OF BULK AT MOST 1048576: true; the input reads as it did. -/
def fnExactHoldsUptoRow : OpenClaim := { program := "ytegmoojjffkacaa", sum := "ec97980afb05dfa9db4e649407b4f868d46ec93393c9c1f558582cd1acb3712c", func := "loop.example/g00945/laws.FnExactHolds", spec := "fnExactHolds", unfollowed := true, recurses := true, apart := false, narrowed := true }
def FnExactHoldsUptoSaid : Prop := fnExactHoldsUptoRow.holds Try.pinned (OpenSpec.upto fnExactHoldsSpec)

/-- 'laws.FnExactHoldsEverywhere', WHERE WHAT IT READS IS OF BULK AT MOST 1048576: true; the input reads as it did. -/
def fnExactHoldsEverywhereUptoRow : OpenClaim := { program := "ytegmoojjffkacaa", sum := "ec97980afb05dfa9db4e649407b4f868d46ec93393c9c1f558582cd1acb3712c", func := "loop.example/g00945/laws.FnExactHoldsEverywhere", spec := "fnExactHoldsEverywhere", unfollowed := true, recurses := true, apart := false, narrowed := true }
def FnExactHoldsEverywhereUptoSaid : Prop := fnExactHoldsEverywhereUptoRow.holds Try.pinned (OpenSpec.upto fnExactHoldsEverywhereSpec)

/-- 'laws.FnExactWorldsWhere', WHERE WHAT IT READS IS OF BULK AT MOST 1048576: true; the input reads as it did. -/
def fnExactWorldsWhereUptoRow : OpenClaim := { program := "ytegmoojjffkacaa", sum := "ec97980afb05dfa9db4e649407b4f868d46ec93393c9c1f558582cd1acb3712c", func := "loop.example/g00945/laws.FnExactWorldsWhere", spec := "fnExactWorldsWhere", unfollowed := true, recurses := true, apart := false, narrowed := true }
def FnExactWorldsWhereUptoSaid : Prop := fnExactWorldsWhereUptoRow.holds Try.pinned (OpenSpec.upto fnExactWorldsWhereSpec)

/-- 'laws.FnExactAreEquivalentIn', WHERE WHAT IT READS IS OF BULK AT MOST 1048576: true; the input reads as it did. -/
def fnExactAreEquivalentInUptoRow : OpenClaim := { program := "ytegmoojjffkacaa", sum := "ec97980afb05dfa9db4e649407b4f868d46ec93393c9c1f558582cd1acb3712c", func := "loop.example/g00945/laws.FnExactAreEquivalentIn", spec := "fnExactAreEquivalentIn", unfollowed := true, recurses := true, apart := false, narrowed := true }
def FnExactAreEquivalentInUptoSaid : Prop := fnExactAreEquivalentInUptoRow.holds Try.pinned (OpenSpec.upto fnExactAreEquivalentInSpec)

/-- 'laws.FnExactKnowsWhich', WHERE WHAT IT READS IS OF BULK AT MOST 1048576: true; the input reads as it did. -/
def fnExactKnowsWhichUptoRow : OpenClaim := { program := "ytegmoojjffkacaa", sum := "ec97980afb05dfa9db4e649407b4f868d46ec93393c9c1f558582cd1acb3712c", func := "loop.example/g00945/laws.FnExactKnowsWhich", spec := "fnExactKnowsWhich", unfollowed := true, recurses := true, apart := false, narrowed := true }
def FnExactKnowsWhichUptoSaid : Prop := fnExactKnowsWhichUptoRow.holds Try.pinned (OpenSpec.upto fnExactKnowsWhichSpec)

end Rows
end Go.Proofs.Ytegmoojjffkacaa
