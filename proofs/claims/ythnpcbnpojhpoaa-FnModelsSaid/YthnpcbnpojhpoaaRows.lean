/-
  No cell of these rows narrows 'for every input' (looked for: loops, veiled, ifaces, maps, wideKeys, modest, calm, conditions, laid).
  DERIVED. THE GIVEN ROWS OF THIS SEAT. 9 by the template 'for every input the law returns true; each argument reads behind the call as it read before'; 0 by the template 'total and deterministic' (their statements: YthnpcbnpojhpoaaTotals.lean).
  GIVEN WITH THE SEED: the statements are not yours to turn. If you find one false, say at which input.
  Laid BY PROGRAM, IN A SANDBOX (cutbox-rows.mjs): the forced cells as the released guide's own fill.sh prints them over the translation 10f4516b7cd36961… (all of the seat's roots in one cut). By AI agents, Wed Nov 11 2026. No macro, syntax, notation, axiom, sorry.
-/
import Derived.Test.YthnpcbnpojhpoaaChecked
import GoSem.Claim
import GoSem.ClaimJoined
import GoSem.ClaimMapViews
import Derived.JoinedTies
import Derived.KernelRfl
namespace Go.Proofs.Ythnpcbnpojhpoaa
/- THE CELL 'sum', in the pinned program and in every row, IS THE sha256 OF THE DUMP (.gsa) THAT YthnpcbnpojhpoaaProg.lean LOADS. Nothing in Lean hashes anything: it is a label: what it is worth is what the hold of that sum in a sandbox is worth. -/
noncomputable def Try.pinned : Pinned := { name := "ythnpcbnpojhpoaa", sum := "10f4516b7cd3696163bd7d718a7d98a42d895382006f547bd95741e00abc22a2", checked := Try.checked }
namespace Rows
def none {H : Type} : Left H := { results := [], args := [] }

/-- 'laws.FnExactRestrictModel': WHATEVER THE INPUT: true; the input reads as it did. -/
def fnExactRestrictModelSpec : ChangeSpec := { name := "fnExactRestrictModel", fn := fun _ => fun
  | [d1, d2] => { results := [.lit (.bool true)], args := [d1, d2] }
  | _ => none }
def fnExactRestrictModelRow : OpenClaim := { program := "ythnpcbnpojhpoaa", sum := "10f4516b7cd3696163bd7d718a7d98a42d895382006f547bd95741e00abc22a2", func := "loop.example/g00945/laws.FnExactRestrictModel", spec := "fnExactRestrictModel", apart := false }
def FnExactRestrictModelSaid : Prop := fnExactRestrictModelRow.holds Try.pinned (OpenSpec.ofChange fnExactRestrictModelSpec)

/-- ITS FALSE NEIGHBOUR: 'it returns false'. Refute it at one input. -/
def fnExactRestrictModelWrong : ChangeSpec := { name := "fnExactRestrictModel", fn := fun _ => fun
  | [d1, d2] => { results := [.lit (.bool false)], args := [d1, d2] }
  | _ => none }
def FnExactRestrictModelWrongFalsely : Prop := fnExactRestrictModelRow.holds Try.pinned (OpenSpec.ofChange fnExactRestrictModelWrong)

/-- 'laws.FnExactReachedFrom': WHATEVER THE INPUT: true; the input reads as it did. -/
def fnExactReachedFromSpec : ChangeSpec := { name := "fnExactReachedFrom", fn := fun _ => fun
  | [d1, d2] => { results := [.lit (.bool true)], args := [d1, d2] }
  | _ => none }
def fnExactReachedFromRow : OpenClaim := { program := "ythnpcbnpojhpoaa", sum := "10f4516b7cd3696163bd7d718a7d98a42d895382006f547bd95741e00abc22a2", func := "loop.example/g00945/laws.FnExactReachedFrom", spec := "fnExactReachedFrom", apart := false }
def FnExactReachedFromSaid : Prop := fnExactReachedFromRow.holds Try.pinned (OpenSpec.ofChange fnExactReachedFromSpec)

/-- ITS FALSE NEIGHBOUR: 'it returns false'. Refute it at one input. -/
def fnExactReachedFromWrong : ChangeSpec := { name := "fnExactReachedFrom", fn := fun _ => fun
  | [d1, d2] => { results := [.lit (.bool false)], args := [d1, d2] }
  | _ => none }
def FnExactReachedFromWrongFalsely : Prop := fnExactReachedFromRow.holds Try.pinned (OpenSpec.ofChange fnExactReachedFromWrong)

/-- 'laws.FnExactTruthOf': WHATEVER THE INPUT: true; the input reads as it did. -/
def fnExactTruthOfSpec : ChangeSpec := { name := "fnExactTruthOf", fn := fun _ => fun
  | [d1, d2] => { results := [.lit (.bool true)], args := [d1, d2] }
  | _ => none }
def fnExactTruthOfRow : OpenClaim := { program := "ythnpcbnpojhpoaa", sum := "10f4516b7cd3696163bd7d718a7d98a42d895382006f547bd95741e00abc22a2", func := "loop.example/g00945/laws.FnExactTruthOf", spec := "fnExactTruthOf", unfollowed := true, recurses := true, apart := false }
def FnExactTruthOfSaid : Prop := fnExactTruthOfRow.holds Try.pinned (OpenSpec.ofChange fnExactTruthOfSpec)

/-- ITS FALSE NEIGHBOUR: 'it returns false'. Refute it at one input. -/
def fnExactTruthOfWrong : ChangeSpec := { name := "fnExactTruthOf", fn := fun _ => fun
  | [d1, d2] => { results := [.lit (.bool false)], args := [d1, d2] }
  | _ => none }
def FnExactTruthOfWrongFalsely : Prop := fnExactTruthOfRow.holds Try.pinned (OpenSpec.ofChange fnExactTruthOfWrong)

/-- 'laws.FnExactHolds': WHATEVER THE INPUT: true; the input reads as it did. -/
def fnExactHoldsSpec : ChangeSpec := { name := "fnExactHolds", fn := fun _ => fun
  | [d1, d2] => { results := [.lit (.bool true)], args := [d1, d2] }
  | _ => none }
def fnExactHoldsRow : OpenClaim := { program := "ythnpcbnpojhpoaa", sum := "10f4516b7cd3696163bd7d718a7d98a42d895382006f547bd95741e00abc22a2", func := "loop.example/g00945/laws.FnExactHolds", spec := "fnExactHolds", unfollowed := true, recurses := true, apart := false }
def FnExactHoldsSaid : Prop := fnExactHoldsRow.holds Try.pinned (OpenSpec.ofChange fnExactHoldsSpec)

/-- ITS FALSE NEIGHBOUR: 'it returns false'. Refute it at one input. -/
def fnExactHoldsWrong : ChangeSpec := { name := "fnExactHolds", fn := fun _ => fun
  | [d1, d2] => { results := [.lit (.bool false)], args := [d1, d2] }
  | _ => none }
def FnExactHoldsWrongFalsely : Prop := fnExactHoldsRow.holds Try.pinned (OpenSpec.ofChange fnExactHoldsWrong)

/-- 'laws.FnExactHoldsEverywhere': WHATEVER THE INPUT: true; the input reads as it did. -/
def fnExactHoldsEverywhereSpec : ChangeSpec := { name := "fnExactHoldsEverywhere", fn := fun _ => fun
  | [d1, d2] => { results := [.lit (.bool true)], args := [d1, d2] }
  | _ => none }
def fnExactHoldsEverywhereRow : OpenClaim := { program := "ythnpcbnpojhpoaa", sum := "10f4516b7cd3696163bd7d718a7d98a42d895382006f547bd95741e00abc22a2", func := "loop.example/g00945/laws.FnExactHoldsEverywhere", spec := "fnExactHoldsEverywhere", unfollowed := true, recurses := true, apart := false }
def FnExactHoldsEverywhereSaid : Prop := fnExactHoldsEverywhereRow.holds Try.pinned (OpenSpec.ofChange fnExactHoldsEverywhereSpec)

/-- ITS FALSE NEIGHBOUR: 'it returns false'. Refute it at one input. -/
def fnExactHoldsEverywhereWrong : ChangeSpec := { name := "fnExactHoldsEverywhere", fn := fun _ => fun
  | [d1, d2] => { results := [.lit (.bool false)], args := [d1, d2] }
  | _ => none }
def FnExactHoldsEverywhereWrongFalsely : Prop := fnExactHoldsEverywhereRow.holds Try.pinned (OpenSpec.ofChange fnExactHoldsEverywhereWrong)

/-- 'laws.FnExactWorldsWhere': WHATEVER THE INPUT: true; the input reads as it did. -/
def fnExactWorldsWhereSpec : ChangeSpec := { name := "fnExactWorldsWhere", fn := fun _ => fun
  | [d1, d2] => { results := [.lit (.bool true)], args := [d1, d2] }
  | _ => none }
def fnExactWorldsWhereRow : OpenClaim := { program := "ythnpcbnpojhpoaa", sum := "10f4516b7cd3696163bd7d718a7d98a42d895382006f547bd95741e00abc22a2", func := "loop.example/g00945/laws.FnExactWorldsWhere", spec := "fnExactWorldsWhere", unfollowed := true, recurses := true, apart := false }
def FnExactWorldsWhereSaid : Prop := fnExactWorldsWhereRow.holds Try.pinned (OpenSpec.ofChange fnExactWorldsWhereSpec)

/-- ITS FALSE NEIGHBOUR: 'it returns false'. Refute it at one input. -/
def fnExactWorldsWhereWrong : ChangeSpec := { name := "fnExactWorldsWhere", fn := fun _ => fun
  | [d1, d2] => { results := [.lit (.bool false)], args := [d1, d2] }
  | _ => none }
def FnExactWorldsWhereWrongFalsely : Prop := fnExactWorldsWhereRow.holds Try.pinned (OpenSpec.ofChange fnExactWorldsWhereWrong)

/-- 'laws.FnExactAreEquivalentIn': WHATEVER THE INPUT: true; the input reads as it did. -/
def fnExactAreEquivalentInSpec : ChangeSpec := { name := "fnExactAreEquivalentIn", fn := fun _ => fun
  | [d1, d2, d3] => { results := [.lit (.bool true)], args := [d1, d2, d3] }
  | _ => none }
def fnExactAreEquivalentInRow : OpenClaim := { program := "ythnpcbnpojhpoaa", sum := "10f4516b7cd3696163bd7d718a7d98a42d895382006f547bd95741e00abc22a2", func := "loop.example/g00945/laws.FnExactAreEquivalentIn", spec := "fnExactAreEquivalentIn", unfollowed := true, recurses := true, apart := false }
def FnExactAreEquivalentInSaid : Prop := fnExactAreEquivalentInRow.holds Try.pinned (OpenSpec.ofChange fnExactAreEquivalentInSpec)

/-- ITS FALSE NEIGHBOUR: 'it returns false'. Refute it at one input. -/
def fnExactAreEquivalentInWrong : ChangeSpec := { name := "fnExactAreEquivalentIn", fn := fun _ => fun
  | [d1, d2, d3] => { results := [.lit (.bool false)], args := [d1, d2, d3] }
  | _ => none }
def FnExactAreEquivalentInWrongFalsely : Prop := fnExactAreEquivalentInRow.holds Try.pinned (OpenSpec.ofChange fnExactAreEquivalentInWrong)

/-- 'laws.FnModels': WHATEVER THE INPUT: true; the input reads as it did. -/
def fnModelsSpec : ChangeSpec := { name := "fnModels", fn := fun _ => fun
  | [d] => { results := [.lit (.bool true)], args := [d] }
  | _ => none }
def fnModelsRow : OpenClaim := { program := "ythnpcbnpojhpoaa", sum := "10f4516b7cd3696163bd7d718a7d98a42d895382006f547bd95741e00abc22a2", func := "loop.example/g00945/laws.FnModels", spec := "fnModels", unfollowed := true, recurses := true, apart := false }
def FnModelsSaid : Prop := fnModelsRow.holds Try.pinned (OpenSpec.ofChange fnModelsSpec)

/-- ITS FALSE NEIGHBOUR: 'it returns false'. Refute it at one input. -/
def fnModelsWrong : ChangeSpec := { name := "fnModels", fn := fun _ => fun
  | [d] => { results := [.lit (.bool false)], args := [d] }
  | _ => none }
def FnModelsWrongFalsely : Prop := fnModelsRow.holds Try.pinned (OpenSpec.ofChange fnModelsWrong)

/-- 'laws.FnFree': WHATEVER THE INPUT: true; the input reads as it did. -/
def fnFreeSpec : ChangeSpec := { name := "fnFree", fn := fun _ => fun
  | [d] => { results := [.lit (.bool true)], args := [d] }
  | _ => none }
def fnFreeRow : OpenClaim := { program := "ythnpcbnpojhpoaa", sum := "10f4516b7cd3696163bd7d718a7d98a42d895382006f547bd95741e00abc22a2", func := "loop.example/g00945/laws.FnFree", spec := "fnFree", inPlace := ["internal/bytealg.IndexByteString"], unfollowed := true, recurses := true, apart := false }
def FnFreeSaid : Prop := fnFreeRow.holds Try.pinned (OpenSpec.ofChange fnFreeSpec)

/-- ITS FALSE NEIGHBOUR: 'it returns false'. Refute it at one input. -/
def fnFreeWrong : ChangeSpec := { name := "fnFree", fn := fun _ => fun
  | [d] => { results := [.lit (.bool false)], args := [d] }
  | _ => none }
def FnFreeWrongFalsely : Prop := fnFreeRow.holds Try.pinned (OpenSpec.ofChange fnFreeWrong)

/- THE SECOND FORM. 'bulk': how many values and letters a reading holds, each counted each time it is reached (what is shared counts as often as it is met; a slice's spare places count too). A statement '..UptoSaid' is the law's where the arguments, and the package variables that the reading takes, are together of bulk at most 1048576: NARROWER than '..Said'. Prove '..Said' where nothing that the law and all that it calls make is longer than what came in: it says more and counts as full. Else prove '..UptoSaid'. A law counts once. -/
mutual
def uptoBulk {H : Type} : DataW H → Nat
  | .lit (.string bytes) => bytes.length + 1
  | .lit _ => 1
  | .nil => 1
  | .ptr d => uptoBulk d + 1
  | .slice elems spare => uptoBulkAll elems + uptoBulkAll spare + 1
  | .agg parts => uptoBulkAll parts + 1
  | .iface _ d => uptoBulk d + 1
  | .map entries => uptoBulkEntries entries + 1
  | .held _ => 1
def uptoBulkAll {H : Type} : List (DataW H) → Nat
  | [] => 0
  | d :: r => uptoBulk d + uptoBulkAll r
def uptoBulkEntries {H : Type} : List (Lit × DataW H) → Nat
  | [] => 0
  | x :: r => uptoBulkEntry x + uptoBulkEntries r
def uptoBulkEntry {H : Type} : Lit × DataW H → Nat
  | (.string bytes, d) => bytes.length + uptoBulk d + 1
  | (_, d) => uptoBulk d + 1
 end
def uptoSmall : (H : Type) → List (DataW H) → Bool := fun _ ds => decide (uptoBulkAll ds ≤ 1048576)
def OpenSpec.upto (s : _root_.Go.ChangeSpec) : _root_.Go.OpenSpec := { _root_.Go.OpenSpec.ofChange s with cond := some uptoSmall }

/-- 'laws.FnExactRestrictModel', WHERE WHAT IT READS IS OF BULK AT MOST 1048576: true; the input reads as it did. -/
def fnExactRestrictModelUptoRow : OpenClaim := { program := "ythnpcbnpojhpoaa", sum := "10f4516b7cd3696163bd7d718a7d98a42d895382006f547bd95741e00abc22a2", func := "loop.example/g00945/laws.FnExactRestrictModel", spec := "fnExactRestrictModel", apart := false, narrowed := true }
def FnExactRestrictModelUptoSaid : Prop := fnExactRestrictModelUptoRow.holds Try.pinned (OpenSpec.upto fnExactRestrictModelSpec)

/-- 'laws.FnExactReachedFrom', WHERE WHAT IT READS IS OF BULK AT MOST 1048576: true; the input reads as it did. -/
def fnExactReachedFromUptoRow : OpenClaim := { program := "ythnpcbnpojhpoaa", sum := "10f4516b7cd3696163bd7d718a7d98a42d895382006f547bd95741e00abc22a2", func := "loop.example/g00945/laws.FnExactReachedFrom", spec := "fnExactReachedFrom", apart := false, narrowed := true }
def FnExactReachedFromUptoSaid : Prop := fnExactReachedFromUptoRow.holds Try.pinned (OpenSpec.upto fnExactReachedFromSpec)

/-- 'laws.FnExactTruthOf', WHERE WHAT IT READS IS OF BULK AT MOST 1048576: true; the input reads as it did. -/
def fnExactTruthOfUptoRow : OpenClaim := { program := "ythnpcbnpojhpoaa", sum := "10f4516b7cd3696163bd7d718a7d98a42d895382006f547bd95741e00abc22a2", func := "loop.example/g00945/laws.FnExactTruthOf", spec := "fnExactTruthOf", unfollowed := true, recurses := true, apart := false, narrowed := true }
def FnExactTruthOfUptoSaid : Prop := fnExactTruthOfUptoRow.holds Try.pinned (OpenSpec.upto fnExactTruthOfSpec)

/-- 'laws.FnExactHolds', WHERE WHAT IT READS IS OF BULK AT MOST 1048576: true; the input reads as it did. -/
def fnExactHoldsUptoRow : OpenClaim := { program := "ythnpcbnpojhpoaa", sum := "10f4516b7cd3696163bd7d718a7d98a42d895382006f547bd95741e00abc22a2", func := "loop.example/g00945/laws.FnExactHolds", spec := "fnExactHolds", unfollowed := true, recurses := true, apart := false, narrowed := true }
def FnExactHoldsUptoSaid : Prop := fnExactHoldsUptoRow.holds Try.pinned (OpenSpec.upto fnExactHoldsSpec)

/-- 'laws.FnExactHoldsEverywhere', WHERE WHAT IT READS IS OF BULK AT MOST 1048576: true; the input reads as it did. -/
def fnExactHoldsEverywhereUptoRow : OpenClaim := { program := "ythnpcbnpojhpoaa", sum := "10f4516b7cd3696163bd7d718a7d98a42d895382006f547bd95741e00abc22a2", func := "loop.example/g00945/laws.FnExactHoldsEverywhere", spec := "fnExactHoldsEverywhere", unfollowed := true, recurses := true, apart := false, narrowed := true }
def FnExactHoldsEverywhereUptoSaid : Prop := fnExactHoldsEverywhereUptoRow.holds Try.pinned (OpenSpec.upto fnExactHoldsEverywhereSpec)

/-- 'laws.FnExactWorldsWhere', WHERE WHAT IT READS IS OF BULK AT MOST 1048576: true; the input reads as it did. -/
def fnExactWorldsWhereUptoRow : OpenClaim := { program := "ythnpcbnpojhpoaa", sum := "10f4516b7cd3696163bd7d718a7d98a42d895382006f547bd95741e00abc22a2", func := "loop.example/g00945/laws.FnExactWorldsWhere", spec := "fnExactWorldsWhere", unfollowed := true, recurses := true, apart := false, narrowed := true }
def FnExactWorldsWhereUptoSaid : Prop := fnExactWorldsWhereUptoRow.holds Try.pinned (OpenSpec.upto fnExactWorldsWhereSpec)

/-- 'laws.FnExactAreEquivalentIn', WHERE WHAT IT READS IS OF BULK AT MOST 1048576: true; the input reads as it did. -/
def fnExactAreEquivalentInUptoRow : OpenClaim := { program := "ythnpcbnpojhpoaa", sum := "10f4516b7cd3696163bd7d718a7d98a42d895382006f547bd95741e00abc22a2", func := "loop.example/g00945/laws.FnExactAreEquivalentIn", spec := "fnExactAreEquivalentIn", unfollowed := true, recurses := true, apart := false, narrowed := true }
def FnExactAreEquivalentInUptoSaid : Prop := fnExactAreEquivalentInUptoRow.holds Try.pinned (OpenSpec.upto fnExactAreEquivalentInSpec)

/-- 'laws.FnModels', WHERE WHAT IT READS IS OF BULK AT MOST 1048576: true; the input reads as it did. -/
def fnModelsUptoRow : OpenClaim := { program := "ythnpcbnpojhpoaa", sum := "10f4516b7cd3696163bd7d718a7d98a42d895382006f547bd95741e00abc22a2", func := "loop.example/g00945/laws.FnModels", spec := "fnModels", unfollowed := true, recurses := true, apart := false, narrowed := true }
def FnModelsUptoSaid : Prop := fnModelsUptoRow.holds Try.pinned (OpenSpec.upto fnModelsSpec)

/-- 'laws.FnFree', WHERE WHAT IT READS IS OF BULK AT MOST 1048576: true; the input reads as it did. -/
def fnFreeUptoRow : OpenClaim := { program := "ythnpcbnpojhpoaa", sum := "10f4516b7cd3696163bd7d718a7d98a42d895382006f547bd95741e00abc22a2", func := "loop.example/g00945/laws.FnFree", spec := "fnFree", inPlace := ["internal/bytealg.IndexByteString"], unfollowed := true, recurses := true, apart := false, narrowed := true }
def FnFreeUptoSaid : Prop := fnFreeUptoRow.holds Try.pinned (OpenSpec.upto fnFreeSpec)

end Rows
end Go.Proofs.Ythnpcbnpojhpoaa
