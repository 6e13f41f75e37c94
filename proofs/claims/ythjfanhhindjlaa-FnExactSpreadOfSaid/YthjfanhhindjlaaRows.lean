/-
  No cell of these rows narrows 'for every input' (looked for: loops, veiled, ifaces, maps, wideKeys, modest, calm, conditions, laid).
  DERIVED. THE GIVEN ROWS OF THIS SEAT. 5 by the template 'for every input the law returns true; each argument reads behind the call as it read before'; 0 by the template 'total and deterministic' (their statements: YthjfanhhindjlaaTotals.lean).
  GIVEN WITH THE SEED: the statements are not yours to turn. If you find one false, say at which input.
  Laid BY PROGRAM, IN A SANDBOX (cutbox-rows.mjs): the forced cells as the released guide's own fill.sh prints them over the translation ba0d7c7e325e1014… (all of the seat's roots in one cut). By AI agents, Wed Nov 11 2026. No macro, syntax, notation, axiom, sorry.
-/
import Derived.Test.YthjfanhhindjlaaChecked
import GoSem.Claim
import GoSem.ClaimJoined
import GoSem.ClaimMapViews
import Derived.JoinedTies
import Derived.KernelRfl
namespace Go.Proofs.Ythjfanhhindjlaa
/- THE CELL 'sum', in the pinned program and in every row, IS THE sha256 OF THE DUMP (.gsa) THAT YthjfanhhindjlaaProg.lean LOADS. Nothing in Lean hashes anything: it is a label: what it is worth is what the hold of that sum in a sandbox is worth. -/
noncomputable def Try.pinned : Pinned := { name := "ythjfanhhindjlaa", sum := "ba0d7c7e325e1014fde19a2b0b254b42ef9bde45c65192e099cac5edc1a241b2", checked := Try.checked }
namespace Rows
def none {H : Type} : Left H := { results := [], args := [] }

/-- 'laws.FnExactSharedDepth': WHATEVER THE INPUT: true; the input reads as it did. -/
def fnExactSharedDepthSpec : ChangeSpec := { name := "fnExactSharedDepth", fn := fun _ => fun
  | [d1, d2] => { results := [.lit (.bool true)], args := [d1, d2] }
  | _ => none }
def fnExactSharedDepthRow : OpenClaim := { program := "ythjfanhhindjlaa", sum := "ba0d7c7e325e1014fde19a2b0b254b42ef9bde45c65192e099cac5edc1a241b2", func := "loop.example/g00945/laws.FnExactSharedDepth", spec := "fnExactSharedDepth", unfollowed := true, recurses := true, apart := false }
def FnExactSharedDepthSaid : Prop := fnExactSharedDepthRow.holds Try.pinned (OpenSpec.ofChange fnExactSharedDepthSpec)

/-- ITS FALSE NEIGHBOUR: 'it returns false'. Refute it at one input. -/
def fnExactSharedDepthWrong : ChangeSpec := { name := "fnExactSharedDepth", fn := fun _ => fun
  | [d1, d2] => { results := [.lit (.bool false)], args := [d1, d2] }
  | _ => none }
def FnExactSharedDepthWrongFalsely : Prop := fnExactSharedDepthRow.holds Try.pinned (OpenSpec.ofChange fnExactSharedDepthWrong)

/-- 'laws.FnExactIsCommon': WHATEVER THE INPUT: true; the input reads as it did. -/
def fnExactIsCommonSpec : ChangeSpec := { name := "fnExactIsCommon", fn := fun _ => fun
  | [d1, d2] => { results := [.lit (.bool true)], args := [d1, d2] }
  | _ => none }
def fnExactIsCommonRow : OpenClaim := { program := "ythjfanhhindjlaa", sum := "ba0d7c7e325e1014fde19a2b0b254b42ef9bde45c65192e099cac5edc1a241b2", func := "loop.example/g00945/laws.FnExactIsCommon", spec := "fnExactIsCommon", unfollowed := true, recurses := true, apart := false }
def FnExactIsCommonSaid : Prop := fnExactIsCommonRow.holds Try.pinned (OpenSpec.ofChange fnExactIsCommonSpec)

/-- ITS FALSE NEIGHBOUR: 'it returns false'. Refute it at one input. -/
def fnExactIsCommonWrong : ChangeSpec := { name := "fnExactIsCommon", fn := fun _ => fun
  | [d1, d2] => { results := [.lit (.bool false)], args := [d1, d2] }
  | _ => none }
def FnExactIsCommonWrongFalsely : Prop := fnExactIsCommonRow.holds Try.pinned (OpenSpec.ofChange fnExactIsCommonWrong)

/-- 'laws.FnExactSpreadOf': WHATEVER THE INPUT: true; the input reads as it did. -/
def fnExactSpreadOfSpec : ChangeSpec := { name := "fnExactSpreadOf", fn := fun _ => fun
  | [d1, d2] => { results := [.lit (.bool true)], args := [d1, d2] }
  | _ => none }
def fnExactSpreadOfRow : OpenClaim := { program := "ythjfanhhindjlaa", sum := "ba0d7c7e325e1014fde19a2b0b254b42ef9bde45c65192e099cac5edc1a241b2", func := "loop.example/g00945/laws.FnExactSpreadOf", spec := "fnExactSpreadOf", unfollowed := true, recurses := true, apart := false }
def FnExactSpreadOfSaid : Prop := fnExactSpreadOfRow.holds Try.pinned (OpenSpec.ofChange fnExactSpreadOfSpec)

/-- ITS FALSE NEIGHBOUR: 'it returns false'. Refute it at one input. -/
def fnExactSpreadOfWrong : ChangeSpec := { name := "fnExactSpreadOf", fn := fun _ => fun
  | [d1, d2] => { results := [.lit (.bool false)], args := [d1, d2] }
  | _ => none }
def FnExactSpreadOfWrongFalsely : Prop := fnExactSpreadOfRow.holds Try.pinned (OpenSpec.ofChange fnExactSpreadOfWrong)

/-- 'laws.FnExactChainAgents': WHATEVER THE INPUT: true; the input reads as it did. -/
def fnExactChainAgentsSpec : ChangeSpec := { name := "fnExactChainAgents", fn := fun _ => fun
  | [d1, d2] => { results := [.lit (.bool true)], args := [d1, d2] }
  | _ => none }
def fnExactChainAgentsRow : OpenClaim := { program := "ythjfanhhindjlaa", sum := "ba0d7c7e325e1014fde19a2b0b254b42ef9bde45c65192e099cac5edc1a241b2", func := "loop.example/g00945/laws.FnExactChainAgents", spec := "fnExactChainAgents", apart := false }
def FnExactChainAgentsSaid : Prop := fnExactChainAgentsRow.holds Try.pinned (OpenSpec.ofChange fnExactChainAgentsSpec)

/-- ITS FALSE NEIGHBOUR: 'it returns false'. Refute it at one input. -/
def fnExactChainAgentsWrong : ChangeSpec := { name := "fnExactChainAgents", fn := fun _ => fun
  | [d1, d2] => { results := [.lit (.bool false)], args := [d1, d2] }
  | _ => none }
def FnExactChainAgentsWrongFalsely : Prop := fnExactChainAgentsRow.holds Try.pinned (OpenSpec.ofChange fnExactChainAgentsWrong)

/-- 'laws.FnExactWhoKnows': WHATEVER THE INPUT: true; the input reads as it did. -/
def fnExactWhoKnowsSpec : ChangeSpec := { name := "fnExactWhoKnows", fn := fun _ => fun
  | [d1, d2] => { results := [.lit (.bool true)], args := [d1, d2] }
  | _ => none }
def fnExactWhoKnowsRow : OpenClaim := { program := "ythjfanhhindjlaa", sum := "ba0d7c7e325e1014fde19a2b0b254b42ef9bde45c65192e099cac5edc1a241b2", func := "loop.example/g00945/laws.FnExactWhoKnows", spec := "fnExactWhoKnows", unfollowed := true, recurses := true, apart := false }
def FnExactWhoKnowsSaid : Prop := fnExactWhoKnowsRow.holds Try.pinned (OpenSpec.ofChange fnExactWhoKnowsSpec)

/-- ITS FALSE NEIGHBOUR: 'it returns false'. Refute it at one input. -/
def fnExactWhoKnowsWrong : ChangeSpec := { name := "fnExactWhoKnows", fn := fun _ => fun
  | [d1, d2] => { results := [.lit (.bool false)], args := [d1, d2] }
  | _ => none }
def FnExactWhoKnowsWrongFalsely : Prop := fnExactWhoKnowsRow.holds Try.pinned (OpenSpec.ofChange fnExactWhoKnowsWrong)

/- THE SECOND FORM. 'bulk': how many values and letters a reading holds, each counted each time it is reached (what is shared counts as often as it is met; a slice's spare places count too). A statement '..UptoSaid' is the law's where the arguments, and the package variables that the reading takes, are together of bulk at most 1048576: NARROWER than '..Said'. Prove '..Said' where nothing that the law and all that it calls make is longer than what came in: it says more and counts as full. Else prove '..UptoSaid'. A law counts once. -/
mutual
def uptoBulk {H : Type} : DataW H → Nat
  | .lit (.string bytes) => bytes.length + 1
  | .lit _ => 1
  | .nil => 1
  | .ptr d => uptoBulk d + 1
  | .slice elems spare => uptoBulkAll elems + uptoBulkAll spare + 1
  | .agg parts => uptoBulkAll parts + 1
  | .iface _ d => uptoBulk d + 1
  | .map entries => uptoBulkEntries entries + 1
  | .held _ => 1
def uptoBulkAll {H : Type} : List (DataW H) → Nat
  | [] => 0
  | d :: r => uptoBulk d + uptoBulkAll r
def uptoBulkEntries {H : Type} : List (Lit × DataW H) → Nat
  | [] => 0
  | x :: r => uptoBulkEntry x + uptoBulkEntries r
def uptoBulkEntry {H : Type} : Lit × DataW H → Nat
  | (.string bytes, d) => bytes.length + uptoBulk d + 1
  | (_, d) => uptoBulk d + 1
 end
def uptoSmall : (H : Type) → List (DataW H) → Bool := fun _ ds => decide (uptoBulkAll ds ≤ 1048576)
def OpenSpec.upto (s : _root_.Go.ChangeSpec) : _root_.Go.OpenSpec := { _root_.Go.OpenSpec.ofChange s with cond := some uptoSmall }

/-- 'laws.FnExactSharedDepth', WHERE WHAT IT READS IS OF BULK AT MOST 1048576: true; the input reads as it did. -/
def fnExactSharedDepthUptoRow : OpenClaim := { program := "ythjfanhhindjlaa", sum := "ba0d7c7e325e1014fde19a2b0b254b42ef9bde45c65192e099cac5edc1a241b2", func := "loop.example/g00945/laws.FnExactSharedDepth", spec := "fnExactSharedDepth", unfollowed := true, recurses := true, apart := false, narrowed := true }
def FnExactSharedDepthUptoSaid : Prop := fnExactSharedDepthUptoRow.holds Try.pinned (OpenSpec.upto fnExactSharedDepthSpec)

/-- 'laws.FnExactIsCommon', WHERE WHAT IT READS IS OF BULK AT MOST 1048576: true; the input reads as it did. -/
def fnExactIsCommonUptoRow : OpenClaim := { program := "ythjfanhhindjlaa", sum := "ba0d7c7e325e1014fde19a2b0b254b42ef9bde45c65192e099cac5edc1a241b2", func := "loop.example/g00945/laws.FnExactIsCommon", spec := "fnExactIsCommon", unfollowed := true, recurses := true, apart := false, narrowed := true }
def FnExactIsCommonUptoSaid : Prop := fnExactIsCommonUptoRow.holds Try.pinned (OpenSpec.upto fnExactIsCommonSpec)

/-- 'laws.FnExactSpreadOf', WHERE WHAT IT READS IS OF BULK AT MOST 1048576: true; the input reads as it did. -/
def fnExactSpreadOfUptoRow : OpenClaim := { program := "ythjfanhhindjlaa", sum := "ba0d7c7e325e1014fde19a2b0b254b42ef9bde45c65192e099cac5edc1a241b2", func := "loop.example/g00945/laws.FnExactSpreadOf", spec := "fnExactSpreadOf", unfollowed := true, recurses := true, apart := false, narrowed := true }
def FnExactSpreadOfUptoSaid : Prop := fnExactSpreadOfUptoRow.holds Try.pinned (OpenSpec.upto fnExactSpreadOfSpec)

/-- 'laws.FnExactChainAgents', WHERE WHAT IT READS IS OF BULK AT MOST 1048576: true; the input reads as it did. -/
def fnExactChainAgentsUptoRow : OpenClaim := { program := "ythjfanhhindjlaa", sum := "ba0d7c7e325e1014fde19a2b0b254b42ef9bde45c65192e099cac5edc1a241b2", func := "loop.example/g00945/laws.FnExactChainAgents", spec := "fnExactChainAgents", apart := false, narrowed := true }
def FnExactChainAgentsUptoSaid : Prop := fnExactChainAgentsUptoRow.holds Try.pinned (OpenSpec.upto fnExactChainAgentsSpec)

/-- 'laws.FnExactWhoKnows', WHERE WHAT IT READS IS OF BULK AT MOST 1048576: true; the input reads as it did. -/
def fnExactWhoKnowsUptoRow : OpenClaim := { program := "ythjfanhhindjlaa", sum := "ba0d7c7e325e1014fde19a2b0b254b42ef9bde45c65192e099cac5edc1a241b2", func := "loop.example/g00945/laws.FnExactWhoKnows", spec := "fnExactWhoKnows", unfollowed := true, recurses := true, apart := false, narrowed := true }
def FnExactWhoKnowsUptoSaid : Prop := fnExactWhoKnowsUptoRow.holds Try.pinned (OpenSpec.upto fnExactWhoKnowsSpec)

end Rows
end Go.Proofs.Ythjfanhhindjlaa
