/-
  No cell of these rows narrows 'for every input' (looked for: loops, veiled, ifaces, maps, wideKeys, modest, calm, conditions, laid).
  DERIVED. THE GIVEN ROWS OF THIS SEAT. 8 by the template 'for every input the law returns true; each argument reads behind the call as it read before'; 0 by the template 'total and deterministic' (their statements: YtlaienflcflpnaaTotals.lean).
  GIVEN WITH THE SEED: the statements are not yours to turn. If you find one false, say at which input.
  Laid BY PROGRAM, IN A SANDBOX (cutbox-rows.mjs): the forced cells as the released guide's own fill.sh prints them over the translation 0b31b49515bb76a3… (all of the seat's roots in one cut). By AI agents, Wed Nov 11 2026. No macro, syntax, notation, axiom, sorry.
-/
import Derived.Test.YtlaienflcflpnaaChecked
import GoSem.Claim
import GoSem.ClaimJoined
import GoSem.ClaimMapViews
import Derived.JoinedTies
import Derived.KernelRfl
namespace Go.Proofs.Ytlaienflcflpnaa
/- THE CELL 'sum', in the pinned program and in every row, IS THE sha256 OF THE DUMP (.gsa) THAT YtlaienflcflpnaaProg.lean LOADS. Nothing in Lean hashes anything: it is a label: what it is worth is what the hold of that sum in a sandbox is worth. -/
noncomputable def Try.pinned : Pinned := { name := "ytlaienflcflpnaa", sum := "0b31b49515bb76a3e1dbec8b18df4b0ff12fefdbcf5939b3a543128ddd00bda6", checked := Try.checked }
namespace Rows
def none {H : Type} : Left H := { results := [], args := [] }

/-- 'laws.FnExactPairOk': WHATEVER THE INPUT: true; the input reads as it did. -/
def fnExactPairOkSpec : ChangeSpec := { name := "fnExactPairOk", fn := fun _ => fun
  | [d] => { results := [.lit (.bool true)], args := [d] }
  | _ => none }
def fnExactPairOkRow : OpenClaim := { program := "ytlaienflcflpnaa", sum := "0b31b49515bb76a3e1dbec8b18df4b0ff12fefdbcf5939b3a543128ddd00bda6", func := "loop.example/g00945/laws.FnExactPairOk", spec := "fnExactPairOk", apart := false }
def FnExactPairOkSaid : Prop := fnExactPairOkRow.holds Try.pinned (OpenSpec.ofChange fnExactPairOkSpec)

/-- ITS FALSE NEIGHBOUR: 'it returns false'. Refute it at one input. -/
def fnExactPairOkWrong : ChangeSpec := { name := "fnExactPairOk", fn := fun _ => fun
  | [d] => { results := [.lit (.bool false)], args := [d] }
  | _ => none }
def FnExactPairOkWrongFalsely : Prop := fnExactPairOkRow.holds Try.pinned (OpenSpec.ofChange fnExactPairOkWrong)

/-- 'laws.FnExactAllPairs': WHATEVER THE INPUT: true; the input reads as it did. -/
def fnExactAllPairsSpec : ChangeSpec := { name := "fnExactAllPairs", fn := fun _ => fun
  | [d] => { results := [.lit (.bool true)], args := [d] }
  | _ => none }
def fnExactAllPairsRow : OpenClaim := { program := "ytlaienflcflpnaa", sum := "0b31b49515bb76a3e1dbec8b18df4b0ff12fefdbcf5939b3a543128ddd00bda6", func := "loop.example/g00945/laws.FnExactAllPairs", spec := "fnExactAllPairs", apart := false }
def FnExactAllPairsSaid : Prop := fnExactAllPairsRow.holds Try.pinned (OpenSpec.ofChange fnExactAllPairsSpec)

/-- ITS FALSE NEIGHBOUR: 'it returns false'. Refute it at one input. -/
def fnExactAllPairsWrong : ChangeSpec := { name := "fnExactAllPairs", fn := fun _ => fun
  | [d] => { results := [.lit (.bool false)], args := [d] }
  | _ => none }
def FnExactAllPairsWrongFalsely : Prop := fnExactAllPairsRow.holds Try.pinned (OpenSpec.ofChange fnExactAllPairsWrong)

/-- 'laws.FnExactKnowsOwn': WHATEVER THE INPUT: true; the input reads as it did. -/
def fnExactKnowsOwnSpec : ChangeSpec := { name := "fnExactKnowsOwn", fn := fun _ => fun
  | [d1, d2, d3] => { results := [.lit (.bool true)], args := [d1, d2, d3] }
  | _ => none }
def fnExactKnowsOwnRow : OpenClaim := { program := "ytlaienflcflpnaa", sum := "0b31b49515bb76a3e1dbec8b18df4b0ff12fefdbcf5939b3a543128ddd00bda6", func := "loop.example/g00945/laws.FnExactKnowsOwn", spec := "fnExactKnowsOwn", apart := false }
def FnExactKnowsOwnSaid : Prop := fnExactKnowsOwnRow.holds Try.pinned (OpenSpec.ofChange fnExactKnowsOwnSpec)

/-- ITS FALSE NEIGHBOUR: 'it returns false'. Refute it at one input. -/
def fnExactKnowsOwnWrong : ChangeSpec := { name := "fnExactKnowsOwn", fn := fun _ => fun
  | [d1, d2, d3] => { results := [.lit (.bool false)], args := [d1, d2, d3] }
  | _ => none }
def FnExactKnowsOwnWrongFalsely : Prop := fnExactKnowsOwnRow.holds Try.pinned (OpenSpec.ofChange fnExactKnowsOwnWrong)

/-- 'laws.FnExactAfterAnswer': WHATEVER THE INPUT: true; the input reads as it did. -/
def fnExactAfterAnswerSpec : ChangeSpec := { name := "fnExactAfterAnswer", fn := fun _ => fun
  | [d1, d2, d3] => { results := [.lit (.bool true)], args := [d1, d2, d3] }
  | _ => none }
def fnExactAfterAnswerRow : OpenClaim := { program := "ytlaienflcflpnaa", sum := "0b31b49515bb76a3e1dbec8b18df4b0ff12fefdbcf5939b3a543128ddd00bda6", func := "loop.example/g00945/laws.FnExactAfterAnswer", spec := "fnExactAfterAnswer", apart := false }
def FnExactAfterAnswerSaid : Prop := fnExactAfterAnswerRow.holds Try.pinned (OpenSpec.ofChange fnExactAfterAnswerSpec)

/-- ITS FALSE NEIGHBOUR: 'it returns false'. Refute it at one input. -/
def fnExactAfterAnswerWrong : ChangeSpec := { name := "fnExactAfterAnswer", fn := fun _ => fun
  | [d1, d2, d3] => { results := [.lit (.bool false)], args := [d1, d2, d3] }
  | _ => none }
def FnExactAfterAnswerWrongFalsely : Prop := fnExactAfterAnswerRow.holds Try.pinned (OpenSpec.ofChange fnExactAfterAnswerWrong)

/-- 'laws.FnExactAnswersFor': WHATEVER THE INPUT: true; the input reads as it did. -/
def fnExactAnswersForSpec : ChangeSpec := { name := "fnExactAnswersFor", fn := fun _ => fun
  | [d1, d2] => { results := [.lit (.bool true)], args := [d1, d2] }
  | _ => none }
def fnExactAnswersForRow : OpenClaim := { program := "ytlaienflcflpnaa", sum := "0b31b49515bb76a3e1dbec8b18df4b0ff12fefdbcf5939b3a543128ddd00bda6", func := "loop.example/g00945/laws.FnExactAnswersFor", spec := "fnExactAnswersFor", apart := false }
def FnExactAnswersForSaid : Prop := fnExactAnswersForRow.holds Try.pinned (OpenSpec.ofChange fnExactAnswersForSpec)

/-- ITS FALSE NEIGHBOUR: 'it returns false'. Refute it at one input. -/
def fnExactAnswersForWrong : ChangeSpec := { name := "fnExactAnswersFor", fn := fun _ => fun
  | [d1, d2] => { results := [.lit (.bool false)], args := [d1, d2] }
  | _ => none }
def FnExactAnswersForWrongFalsely : Prop := fnExactAnswersForRow.holds Try.pinned (OpenSpec.ofChange fnExactAnswersForWrong)

/-- 'laws.FnExactTurnOf': WHATEVER THE INPUT: true; the input reads as it did. -/
def fnExactTurnOfSpec : ChangeSpec := { name := "fnExactTurnOf", fn := fun _ => fun
  | [d1, d2] => { results := [.lit (.bool true)], args := [d1, d2] }
  | _ => none }
def fnExactTurnOfRow : OpenClaim := { program := "ytlaienflcflpnaa", sum := "0b31b49515bb76a3e1dbec8b18df4b0ff12fefdbcf5939b3a543128ddd00bda6", func := "loop.example/g00945/laws.FnExactTurnOf", spec := "fnExactTurnOf", apart := false }
def FnExactTurnOfSaid : Prop := fnExactTurnOfRow.holds Try.pinned (OpenSpec.ofChange fnExactTurnOfSpec)

/-- ITS FALSE NEIGHBOUR: 'it returns false'. Refute it at one input. -/
def fnExactTurnOfWrong : ChangeSpec := { name := "fnExactTurnOf", fn := fun _ => fun
  | [d1, d2] => { results := [.lit (.bool false)], args := [d1, d2] }
  | _ => none }
def FnExactTurnOfWrongFalsely : Prop := fnExactTurnOfRow.holds Try.pinned (OpenSpec.ofChange fnExactTurnOfWrong)

/-- 'laws.FnExactPairsLeft': WHATEVER THE INPUT: true; the input reads as it did. -/
def fnExactPairsLeftSpec : ChangeSpec := { name := "fnExactPairsLeft", fn := fun _ => fun
  | [d1, d2] => { results := [.lit (.bool true)], args := [d1, d2] }
  | _ => none }
def fnExactPairsLeftRow : OpenClaim := { program := "ytlaienflcflpnaa", sum := "0b31b49515bb76a3e1dbec8b18df4b0ff12fefdbcf5939b3a543128ddd00bda6", func := "loop.example/g00945/laws.FnExactPairsLeft", spec := "fnExactPairsLeft", apart := false }
def FnExactPairsLeftSaid : Prop := fnExactPairsLeftRow.holds Try.pinned (OpenSpec.ofChange fnExactPairsLeftSpec)

/-- ITS FALSE NEIGHBOUR: 'it returns false'. Refute it at one input. -/
def fnExactPairsLeftWrong : ChangeSpec := { name := "fnExactPairsLeft", fn := fun _ => fun
  | [d1, d2] => { results := [.lit (.bool false)], args := [d1, d2] }
  | _ => none }
def FnExactPairsLeftWrongFalsely : Prop := fnExactPairsLeftRow.holds Try.pinned (OpenSpec.ofChange fnExactPairsLeftWrong)

/-- 'laws.FnNumbers': WHATEVER THE INPUT: true; the input reads as it did. -/
def fnNumbersSpec : ChangeSpec := { name := "fnNumbers", fn := fun _ => fun
  | [d] => { results := [.lit (.bool true)], args := [d] }
  | _ => none }
def fnNumbersRow : OpenClaim := { program := "ytlaienflcflpnaa", sum := "0b31b49515bb76a3e1dbec8b18df4b0ff12fefdbcf5939b3a543128ddd00bda6", func := "loop.example/g00945/laws.FnNumbers", spec := "fnNumbers", apart := false }
def FnNumbersSaid : Prop := fnNumbersRow.holds Try.pinned (OpenSpec.ofChange fnNumbersSpec)

/-- ITS FALSE NEIGHBOUR: 'it returns false'. Refute it at one input. -/
def fnNumbersWrong : ChangeSpec := { name := "fnNumbers", fn := fun _ => fun
  | [d] => { results := [.lit (.bool false)], args := [d] }
  | _ => none }
def FnNumbersWrongFalsely : Prop := fnNumbersRow.holds Try.pinned (OpenSpec.ofChange fnNumbersWrong)

/- THE SECOND FORM. 'bulk': how many values and letters a reading holds, each counted each time it is reached (what is shared counts as often as it is met; a slice's spare places count too). A statement '..UptoSaid' is the law's where the arguments, and the package variables that the reading takes, are together of bulk at most 1048576: NARROWER than '..Said'. Prove '..Said' where nothing that the law and all that it calls make is longer than what came in: it says more and counts as full. Else prove '..UptoSaid'. A law counts once. -/
mutual
def uptoBulk {H : Type} : DataW H → Nat
  | .lit (.string bytes) => bytes.length + 1
  | .lit _ => 1
  | .nil => 1
  | .ptr d => uptoBulk d + 1
  | .slice elems spare => uptoBulkAll elems + uptoBulkAll spare + 1
  | .agg parts => uptoBulkAll parts + 1
  | .iface _ d => uptoBulk d + 1
  | .map entries => uptoBulkEntries entries + 1
  | .held _ => 1
def uptoBulkAll {H : Type} : List (DataW H) → Nat
  | [] => 0
  | d :: r => uptoBulk d + uptoBulkAll r
def uptoBulkEntries {H : Type} : List (Lit × DataW H) → Nat
  | [] => 0
  | x :: r => uptoBulkEntry x + uptoBulkEntries r
def uptoBulkEntry {H : Type} : Lit × DataW H → Nat
  | (.string bytes, d) => bytes.length + uptoBulk d + 1
  | (_, d) => uptoBulk d + 1
 end
def uptoSmall : (H : Type) → List (DataW H) → Bool := fun _ ds => decide (uptoBulkAll ds ≤ 1048576)
def OpenSpec.upto (s : _root_.Go.ChangeSpec) : _root_.Go.OpenSpec := { _root_.Go.OpenSpec.ofChange s with cond := some uptoSmall }

/-- 'laws.FnExactPairOk', WHERE WHAT IT READS IS OF BULK AT MOST 1048576: true; the input reads as it did. -/
def fnExactPairOkUptoRow : OpenClaim := { program := "ytlaienflcflpnaa", sum := "0b31b49515bb76a3e1dbec8b18df4b0ff12fefdbcf5939b3a543128ddd00bda6", func := "loop.example/g00945/laws.FnExactPairOk", spec := "fnExactPairOk", apart := false, narrowed := true }
def FnExactPairOkUptoSaid : Prop := fnExactPairOkUptoRow.holds Try.pinned (OpenSpec.upto fnExactPairOkSpec)

/-- 'laws.FnExactAllPairs', WHERE WHAT IT READS IS OF BULK AT MOST 1048576: true; the input reads as it did. -/
def fnExactAllPairsUptoRow : OpenClaim := { program := "ytlaienflcflpnaa", sum := "0b31b49515bb76a3e1dbec8b18df4b0ff12fefdbcf5939b3a543128ddd00bda6", func := "loop.example/g00945/laws.FnExactAllPairs", spec := "fnExactAllPairs", apart := false, narrowed := true }
def FnExactAllPairsUptoSaid : Prop := fnExactAllPairsUptoRow.holds Try.pinned (OpenSpec.upto fnExactAllPairsSpec)

/-- 'laws.FnExactKnowsOwn', WHERE WHAT IT READS IS OF BULK AT MOST 1048576: true; the input reads as it did. -/
def fnExactKnowsOwnUptoRow : OpenClaim := { program := "ytlaienflcflpnaa", sum := "0b31b49515bb76a3e1dbec8b18df4b0ff12fefdbcf5939b3a543128ddd00bda6", func := "loop.example/g00945/laws.FnExactKnowsOwn", spec := "fnExactKnowsOwn", apart := false, narrowed := true }
def FnExactKnowsOwnUptoSaid : Prop := fnExactKnowsOwnUptoRow.holds Try.pinned (OpenSpec.upto fnExactKnowsOwnSpec)

/-- 'laws.FnExactAfterAnswer', WHERE WHAT IT READS IS OF BULK AT MOST 1048576: true; the input reads as it did. -/
def fnExactAfterAnswerUptoRow : OpenClaim := { program := "ytlaienflcflpnaa", sum := "0b31b49515bb76a3e1dbec8b18df4b0ff12fefdbcf5939b3a543128ddd00bda6", func := "loop.example/g00945/laws.FnExactAfterAnswer", spec := "fnExactAfterAnswer", apart := false, narrowed := true }
def FnExactAfterAnswerUptoSaid : Prop := fnExactAfterAnswerUptoRow.holds Try.pinned (OpenSpec.upto fnExactAfterAnswerSpec)

/-- 'laws.FnExactAnswersFor', WHERE WHAT IT READS IS OF BULK AT MOST 1048576: true; the input reads as it did. -/
def fnExactAnswersForUptoRow : OpenClaim := { program := "ytlaienflcflpnaa", sum := "0b31b49515bb76a3e1dbec8b18df4b0ff12fefdbcf5939b3a543128ddd00bda6", func := "loop.example/g00945/laws.FnExactAnswersFor", spec := "fnExactAnswersFor", apart := false, narrowed := true }
def FnExactAnswersForUptoSaid : Prop := fnExactAnswersForUptoRow.holds Try.pinned (OpenSpec.upto fnExactAnswersForSpec)

/-- 'laws.FnExactTurnOf', WHERE WHAT IT READS IS OF BULK AT MOST 1048576: true; the input reads as it did. -/
def fnExactTurnOfUptoRow : OpenClaim := { program := "ytlaienflcflpnaa", sum := "0b31b49515bb76a3e1dbec8b18df4b0ff12fefdbcf5939b3a543128ddd00bda6", func := "loop.example/g00945/laws.FnExactTurnOf", spec := "fnExactTurnOf", apart := false, narrowed := true }
def FnExactTurnOfUptoSaid : Prop := fnExactTurnOfUptoRow.holds Try.pinned (OpenSpec.upto fnExactTurnOfSpec)

/-- 'laws.FnExactPairsLeft', WHERE WHAT IT READS IS OF BULK AT MOST 1048576: true; the input reads as it did. -/
def fnExactPairsLeftUptoRow : OpenClaim := { program := "ytlaienflcflpnaa", sum := "0b31b49515bb76a3e1dbec8b18df4b0ff12fefdbcf5939b3a543128ddd00bda6", func := "loop.example/g00945/laws.FnExactPairsLeft", spec := "fnExactPairsLeft", apart := false, narrowed := true }
def FnExactPairsLeftUptoSaid : Prop := fnExactPairsLeftUptoRow.holds Try.pinned (OpenSpec.upto fnExactPairsLeftSpec)

/-- 'laws.FnNumbers', WHERE WHAT IT READS IS OF BULK AT MOST 1048576: true; the input reads as it did. -/
def fnNumbersUptoRow : OpenClaim := { program := "ytlaienflcflpnaa", sum := "0b31b49515bb76a3e1dbec8b18df4b0ff12fefdbcf5939b3a543128ddd00bda6", func := "loop.example/g00945/laws.FnNumbers", spec := "fnNumbers", apart := false, narrowed := true }
def FnNumbersUptoSaid : Prop := fnNumbersUptoRow.holds Try.pinned (OpenSpec.upto fnNumbersSpec)

end Rows
end Go.Proofs.Ytlaienflcflpnaa
