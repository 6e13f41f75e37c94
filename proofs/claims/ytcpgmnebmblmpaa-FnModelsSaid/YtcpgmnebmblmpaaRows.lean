/-
  No cell of these rows narrows 'for every input' (looked for: loops, veiled, ifaces, maps, wideKeys, modest, calm, conditions, laid).
  DERIVED. THE GIVEN ROWS OF THIS SEAT. 6 by the template 'for every input the law returns true; each argument reads behind the call as it read before'; 0 by the template 'total and deterministic' (their statements: YtcpgmnebmblmpaaTotals.lean).
  GIVEN WITH THE SEED: the statements are not yours to turn. If you find one false, say at which input.
  Laid BY PROGRAM, IN A SANDBOX (cutbox-rows.mjs): the forced cells as the released guide's own fill.sh prints them over the translation f27ec2405057c7bf… (all of the seat's roots in one cut). By AI agents, Wed Nov 11 2026. No macro, syntax, notation, axiom, sorry.
-/
import Derived.Test.YtcpgmnebmblmpaaChecked
import GoSem.Claim
import GoSem.ClaimJoined
import GoSem.ClaimMapViews
import Derived.JoinedTies
import Derived.KernelRfl
namespace Go.Proofs.Ytcpgmnebmblmpaa
/- THE CELL 'sum', in the pinned program and in every row, IS THE sha256 OF THE DUMP (.gsa) THAT YtcpgmnebmblmpaaProg.lean LOADS. Nothing in Lean hashes anything: it is a label: what it is worth is what the hold of that sum in a sandbox is worth. -/
noncomputable def Try.pinned : Pinned := { name := "ytcpgmnebmblmpaa", sum := "f27ec2405057c7bf75a86e1ed8d902774977a9a868bda79dacf8c82381c22599", checked := Try.checked }
namespace Rows
def none {H : Type} : Left H := { results := [], args := [] }

/-- 'laws.FnExactTruthOf': WHATEVER THE INPUT: true; the input reads as it did. -/
def fnExactTruthOfSpec : ChangeSpec := { name := "fnExactTruthOf", fn := fun _ => fun
  | [d1, d2] => { results := [.lit (.bool true)], args := [d1, d2] }
  | _ => none }
def fnExactTruthOfRow : OpenClaim := { program := "ytcpgmnebmblmpaa", sum := "f27ec2405057c7bf75a86e1ed8d902774977a9a868bda79dacf8c82381c22599", func := "loop.example/g00945/laws.FnExactTruthOf", spec := "fnExactTruthOf", unfollowed := true, recurses := true, apart := false }
def FnExactTruthOfSaid : Prop := fnExactTruthOfRow.holds Try.pinned (OpenSpec.ofChange fnExactTruthOfSpec)

/-- ITS FALSE NEIGHBOUR: 'it returns false'. Refute it at one input. -/
def fnExactTruthOfWrong : ChangeSpec := { name := "fnExactTruthOf", fn := fun _ => fun
  | [d1, d2] => { results := [.lit (.bool false)], args := [d1, d2] }
  | _ => none }
def FnExactTruthOfWrongFalsely : Prop := fnExactTruthOfRow.holds Try.pinned (OpenSpec.ofChange fnExactTruthOfWrong)

/-- 'laws.FnExactHolds': WHATEVER THE INPUT: true; the input reads as it did. -/
def fnExactHoldsSpec : ChangeSpec := { name := "fnExactHolds", fn := fun _ => fun
  | [d1, d2] => { results := [.lit (.bool true)], args := [d1, d2] }
  | _ => none }
def fnExactHoldsRow : OpenClaim := { program := "ytcpgmnebmblmpaa", sum := "f27ec2405057c7bf75a86e1ed8d902774977a9a868bda79dacf8c82381c22599", func := "loop.example/g00945/laws.FnExactHolds", spec := "fnExactHolds", unfollowed := true, recurses := true, apart := false }
def FnExactHoldsSaid : Prop := fnExactHoldsRow.holds Try.pinned (OpenSpec.ofChange fnExactHoldsSpec)

/-- ITS FALSE NEIGHBOUR: 'it returns false'. Refute it at one input. -/
def fnExactHoldsWrong : ChangeSpec := { name := "fnExactHolds", fn := fun _ => fun
  | [d1, d2] => { results := [.lit (.bool false)], args := [d1, d2] }
  | _ => none }
def FnExactHoldsWrongFalsely : Prop := fnExactHoldsRow.holds Try.pinned (OpenSpec.ofChange fnExactHoldsWrong)

/-- 'laws.FnExactHoldsEverywhere': WHATEVER THE INPUT: true; the input reads as it did. -/
def fnExactHoldsEverywhereSpec : ChangeSpec := { name := "fnExactHoldsEverywhere", fn := fun _ => fun
  | [d1, d2] => { results := [.lit (.bool true)], args := [d1, d2] }
  | _ => none }
def fnExactHoldsEverywhereRow : OpenClaim := { program := "ytcpgmnebmblmpaa", sum := "f27ec2405057c7bf75a86e1ed8d902774977a9a868bda79dacf8c82381c22599", func := "loop.example/g00945/laws.FnExactHoldsEverywhere", spec := "fnExactHoldsEverywhere", unfollowed := true, recurses := true, apart := false }
def FnExactHoldsEverywhereSaid : Prop := fnExactHoldsEverywhereRow.holds Try.pinned (OpenSpec.ofChange fnExactHoldsEverywhereSpec)

/-- ITS FALSE NEIGHBOUR: 'it returns false'. Refute it at one input. -/
def fnExactHoldsEverywhereWrong : ChangeSpec := { name := "fnExactHoldsEverywhere", fn := fun _ => fun
  | [d1, d2] => { results := [.lit (.bool false)], args := [d1, d2] }
  | _ => none }
def FnExactHoldsEverywhereWrongFalsely : Prop := fnExactHoldsEverywhereRow.holds Try.pinned (OpenSpec.ofChange fnExactHoldsEverywhereWrong)

/-- 'laws.FnExactWorldsWhere': WHATEVER THE INPUT: true; the input reads as it did. -/
def fnExactWorldsWhereSpec : ChangeSpec := { name := "fnExactWorldsWhere", fn := fun _ => fun
  | [d1, d2] => { results := [.lit (.bool true)], args := [d1, d2] }
  | _ => none }
def fnExactWorldsWhereRow : OpenClaim := { program := "ytcpgmnebmblmpaa", sum := "f27ec2405057c7bf75a86e1ed8d902774977a9a868bda79dacf8c82381c22599", func := "loop.example/g00945/laws.FnExactWorldsWhere", spec := "fnExactWorldsWhere", unfollowed := true, recurses := true, apart := false }
def FnExactWorldsWhereSaid : Prop := fnExactWorldsWhereRow.holds Try.pinned (OpenSpec.ofChange fnExactWorldsWhereSpec)

/-- ITS FALSE NEIGHBOUR: 'it returns false'. Refute it at one input. -/
def fnExactWorldsWhereWrong : ChangeSpec := { name := "fnExactWorldsWhere", fn := fun _ => fun
  | [d1, d2] => { results := [.lit (.bool false)], args := [d1, d2] }
  | _ => none }
def FnExactWorldsWhereWrongFalsely : Prop := fnExactWorldsWhereRow.holds Try.pinned (OpenSpec.ofChange fnExactWorldsWhereWrong)

/-- 'laws.FnExactAreEquivalentIn': WHATEVER THE INPUT: true; the input reads as it did. -/
def fnExactAreEquivalentInSpec : ChangeSpec := { name := "fnExactAreEquivalentIn", fn := fun _ => fun
  | [d1, d2, d3] => { results := [.lit (.bool true)], args := [d1, d2, d3] }
  | _ => none }
def fnExactAreEquivalentInRow : OpenClaim := { program := "ytcpgmnebmblmpaa", sum := "f27ec2405057c7bf75a86e1ed8d902774977a9a868bda79dacf8c82381c22599", func := "loop.example/g00945/laws.FnExactAreEquivalentIn", spec := "fnExactAreEquivalentIn", unfollowed := true, recurses := true, apart := false }
def FnExactAreEquivalentInSaid : Prop := fnExactAreEquivalentInRow.holds Try.pinned (OpenSpec.ofChange fnExactAreEquivalentInSpec)

/-- ITS FALSE NEIGHBOUR: 'it returns false'. Refute it at one input. -/
def fnExactAreEquivalentInWrong : ChangeSpec := { name := "fnExactAreEquivalentIn", fn := fun _ => fun
  | [d1, d2, d3] => { results := [.lit (.bool false)], args := [d1, d2, d3] }
  | _ => none }
def FnExactAreEquivalentInWrongFalsely : Prop := fnExactAreEquivalentInRow.holds Try.pinned (OpenSpec.ofChange fnExactAreEquivalentInWrong)

/-- 'laws.FnModels': WHATEVER THE INPUT: true; the input reads as it did. -/
def fnModelsSpec : ChangeSpec := { name := "fnModels", fn := fun _ => fun
  | [d] => { results := [.lit (.bool true)], args := [d] }
  | _ => none }
def fnModelsRow : OpenClaim := { program := "ytcpgmnebmblmpaa", sum := "f27ec2405057c7bf75a86e1ed8d902774977a9a868bda79dacf8c82381c22599", func := "loop.example/g00945/laws.FnModels", spec := "fnModels", unfollowed := true, recurses := true, apart := false }
def FnModelsSaid : Prop := fnModelsRow.holds Try.pinned (OpenSpec.ofChange fnModelsSpec)

/-- ITS FALSE NEIGHBOUR: 'it returns false'. Refute it at one input. -/
def fnModelsWrong : ChangeSpec := { name := "fnModels", fn := fun _ => fun
  | [d] => { results := [.lit (.bool false)], args := [d] }
  | _ => none }
def FnModelsWrongFalsely : Prop := fnModelsRow.holds Try.pinned (OpenSpec.ofChange fnModelsWrong)

/- THE SECOND FORM. 'bulk': how many values and letters a reading holds, each counted each time it is reached (what is shared counts as often as it is met; a slice's spare places count too). A statement '..UptoSaid' is the law's where the arguments, and the package variables that the reading takes, are together of bulk at most 1048576: NARROWER than '..Said'. Prove '..Said' where nothing that the law and all that it calls make is longer than what came in: it says more and counts as full. Else prove '..UptoSaid'. A law counts once. -/
mutual
def uptoBulk {H : Type} : DataW H → Nat
  | .lit (.string bytes) => bytes.length + 1
  | .lit _ => 1
  | .nil => 1
  | .ptr d => uptoBulk d + 1
  | .slice elems spare => uptoBulkAll elems + uptoBulkAll spare + 1
  | .agg parts => uptoBulkAll parts + 1
  | .iface _ d => uptoBulk d + 1
  | .map entries => uptoBulkEntries entries + 1
  | .held _ => 1
def uptoBulkAll {H : Type} : List (DataW H) → Nat
  | [] => 0
  | d :: r => uptoBulk d + uptoBulkAll r
def uptoBulkEntries {H : Type} : List (Lit × DataW H) → Nat
  | [] => 0
  | x :: r => uptoBulkEntry x + uptoBulkEntries r
def uptoBulkEntry {H : Type} : Lit × DataW H → Nat
  | (.string bytes, d) => bytes.length + uptoBulk d + 1
  | (_, d) => uptoBulk d + 1
 end
def uptoSmall : (H : Type) → List (DataW H) → Bool := fun _ ds => decide (uptoBulkAll ds ≤ 1048576)
def OpenSpec.upto (s : _root_.Go.ChangeSpec) : _root_.Go.OpenSpec := { _root_.Go.OpenSpec.ofChange s with cond := some uptoSmall }

/-- 'laws.FnExactTruthOf', WHERE WHAT IT READS IS OF BULK AT MOST 1048576: true; the input reads as it did. -/
def fnExactTruthOfUptoRow : OpenClaim := { program := "ytcpgmnebmblmpaa", sum := "f27ec2405057c7bf75a86e1ed8d902774977a9a868bda79dacf8c82381c22599", func := "loop.example/g00945/laws.FnExactTruthOf", spec := "fnExactTruthOf", unfollowed := true, recurses := true, apart := false, narrowed := true }
def FnExactTruthOfUptoSaid : Prop := fnExactTruthOfUptoRow.holds Try.pinned (OpenSpec.upto fnExactTruthOfSpec)

/-- 'laws.FnExactHolds', WHERE WHAT IT READS IS OF BULK AT MOST 1048576: true; the input reads as it did. -/
def fnExactHoldsUptoRow : OpenClaim := { program := "ytcpgmnebmblmpaa", sum := "f27ec2405057c7bf75a86e1ed8d902774977a9a868bda79dacf8c82381c22599", func := "loop.example/g00945/laws.FnExactHolds", spec := "fnExactHolds", unfollowed := true, recurses := true, apart := false, narrowed := true }
def FnExactHoldsUptoSaid : Prop := fnExactHoldsUptoRow.holds Try.pinned (OpenSpec.upto fnExactHoldsSpec)

/-- 'laws.FnExactHoldsEverywhere', WHERE WHAT IT READS IS OF BULK AT MOST 1048576: true; the input reads as it did. -/
def fnExactHoldsEverywhereUptoRow : OpenClaim := { program := "ytcpgmnebmblmpaa", sum := "f27ec2405057c7bf75a86e1ed8d902774977a9a868bda79dacf8c82381c22599", func := "loop.example/g00945/laws.FnExactHoldsEverywhere", spec := "fnExactHoldsEverywhere", unfollowed := true, recurses := true, apart := false, narrowed := true }
def FnExactHoldsEverywhereUptoSaid : Prop := fnExactHoldsEverywhereUptoRow.holds Try.pinned (OpenSpec.upto fnExactHoldsEverywhereSpec)

/-- 'laws.FnExactWorldsWhere', WHERE WHAT IT READS IS OF BULK AT MOST 1048576: true; the input reads as it did. -/
def fnExactWorldsWhereUptoRow : OpenClaim := { program := "ytcpgmnebmblmpaa", sum := "f27ec2405057c7bf75a86e1ed8d902774977a9a868bda79dacf8c82381c22599", func := "loop.example/g00945/laws.FnExactWorldsWhere", spec := "fnExactWorldsWhere", unfollowed := true, recurses := true, apart := false, narrowed := true }
def FnExactWorldsWhereUptoSaid : Prop := fnExactWorldsWhereUptoRow.holds Try.pinned (OpenSpec.upto fnExactWorldsWhereSpec)

/-- 'laws.FnExactAreEquivalentIn', WHERE WHAT IT READS IS OF BULK AT MOST 1048576: true; the input reads as it did. -/
def fnExactAreEquivalentInUptoRow : OpenClaim := { program := "ytcpgmnebmblmpaa", sum := "f27ec2405057c7bf75a86e1ed8d902774977a9a868bda79dacf8c82381c22599", func := "loop.example/g00945/laws.FnExactAreEquivalentIn", spec := "fnExactAreEquivalentIn", unfollowed := true, recurses := true, apart := false, narrowed := true }
def FnExactAreEquivalentInUptoSaid : Prop := fnExactAreEquivalentInUptoRow.holds Try.pinned (OpenSpec.upto fnExactAreEquivalentInSpec)

/-- 'laws.FnModels', WHERE WHAT IT READS IS OF BULK AT MOST 1048576: true; the input reads as it did. -/
def fnModelsUptoRow : OpenClaim := { program := "ytcpgmnebmblmpaa", sum := "f27ec2405057c7bf75a86e1ed8d902774977a9a868bda79dacf8c82381c22599", func := "loop.example/g00945/laws.FnModels", spec := "fnModels", unfollowed := true, recurses := true, apart := false, narrowed := true }
def FnModelsUptoSaid : Prop := fnModelsUptoRow.holds Try.pinned (OpenSpec.upto fnModelsSpec)

end Rows
end Go.Proofs.Ytcpgmnebmblmpaa
