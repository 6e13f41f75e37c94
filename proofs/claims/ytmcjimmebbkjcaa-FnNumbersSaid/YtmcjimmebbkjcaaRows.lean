/-
  No cell of these rows narrows 'for every input' (looked for: loops, veiled, ifaces, maps, wideKeys, modest, calm, conditions, laid).
  DERIVED. THE GIVEN ROWS OF THIS SEAT. 11 by the template 'for every input the law returns true; each argument reads behind the call as it read before'; 0 by the template 'total and deterministic' (their statements: YtmcjimmebbkjcaaTotals.lean).
  GIVEN WITH THE SEED: the statements are not yours to turn. If you find one false, say at which input.
  Laid BY PROGRAM, IN A SANDBOX (cutbox-rows.mjs): the forced cells as the released guide's own fill.sh prints them over the translation 8b38dcb8acf7472c… (all of the seat's roots in one cut). By AI agents, Wed Nov 11 2026. No macro, syntax, notation, axiom, sorry.
-/
import Derived.Test.YtmcjimmebbkjcaaChecked
import GoSem.Claim
import GoSem.ClaimJoined
import GoSem.ClaimMapViews
import Derived.JoinedTies
import Derived.KernelRfl
namespace Go.Proofs.Ytmcjimmebbkjcaa
/- THE CELL 'sum', in the pinned program and in every row, IS THE sha256 OF THE DUMP (.gsa) THAT YtmcjimmebbkjcaaProg.lean LOADS. Nothing in Lean hashes anything: it is a label: what it is worth is what the hold of that sum in a sandbox is worth. -/
noncomputable def Try.pinned : Pinned := { name := "ytmcjimmebbkjcaa", sum := "8b38dcb8acf7472cdfe5da859ac458b929a9e0da48f081db27f932608b4a668c", checked := Try.checked }
namespace Rows
def none {H : Type} : Left H := { results := [], args := [] }

/-- 'laws.FnExactSumPairs': WHATEVER THE INPUT: true; the input reads as it did. -/
def fnExactSumPairsSpec : ChangeSpec := { name := "fnExactSumPairs", fn := fun _ => fun
  | [d] => { results := [.lit (.bool true)], args := [d] }
  | _ => none }
def fnExactSumPairsRow : OpenClaim := { program := "ytmcjimmebbkjcaa", sum := "8b38dcb8acf7472cdfe5da859ac458b929a9e0da48f081db27f932608b4a668c", func := "loop.example/g00945/laws.FnExactSumPairs", spec := "fnExactSumPairs", apart := false }
def FnExactSumPairsSaid : Prop := fnExactSumPairsRow.holds Try.pinned (OpenSpec.ofChange fnExactSumPairsSpec)

/-- ITS FALSE NEIGHBOUR: 'it returns false'. Refute it at one input. -/
def fnExactSumPairsWrong : ChangeSpec := { name := "fnExactSumPairs", fn := fun _ => fun
  | [d] => { results := [.lit (.bool false)], args := [d] }
  | _ => none }
def FnExactSumPairsWrongFalsely : Prop := fnExactSumPairsRow.holds Try.pinned (OpenSpec.ofChange fnExactSumPairsWrong)

/-- 'laws.FnExactUniqueProduct': WHATEVER THE INPUT: true; the input reads as it did. -/
def fnExactUniqueProductSpec : ChangeSpec := { name := "fnExactUniqueProduct", fn := fun _ => fun
  | [d1, d2] => { results := [.lit (.bool true)], args := [d1, d2] }
  | _ => none }
def fnExactUniqueProductRow : OpenClaim := { program := "ytmcjimmebbkjcaa", sum := "8b38dcb8acf7472cdfe5da859ac458b929a9e0da48f081db27f932608b4a668c", func := "loop.example/g00945/laws.FnExactUniqueProduct", spec := "fnExactUniqueProduct", unfollowed := true, recurses := true, apart := false }
def FnExactUniqueProductSaid : Prop := fnExactUniqueProductRow.holds Try.pinned (OpenSpec.ofChange fnExactUniqueProductSpec)

/-- ITS FALSE NEIGHBOUR: 'it returns false'. Refute it at one input. -/
def fnExactUniqueProductWrong : ChangeSpec := { name := "fnExactUniqueProduct", fn := fun _ => fun
  | [d1, d2] => { results := [.lit (.bool false)], args := [d1, d2] }
  | _ => none }
def FnExactUniqueProductWrongFalsely : Prop := fnExactUniqueProductRow.holds Try.pinned (OpenSpec.ofChange fnExactUniqueProductWrong)

/-- 'laws.FnExactUniqueSum': WHATEVER THE INPUT: true; the input reads as it did. -/
def fnExactUniqueSumSpec : ChangeSpec := { name := "fnExactUniqueSum", fn := fun _ => fun
  | [d1, d2] => { results := [.lit (.bool true)], args := [d1, d2] }
  | _ => none }
def fnExactUniqueSumRow : OpenClaim := { program := "ytmcjimmebbkjcaa", sum := "8b38dcb8acf7472cdfe5da859ac458b929a9e0da48f081db27f932608b4a668c", func := "loop.example/g00945/laws.FnExactUniqueSum", spec := "fnExactUniqueSum", unfollowed := true, recurses := true, apart := false }
def FnExactUniqueSumSaid : Prop := fnExactUniqueSumRow.holds Try.pinned (OpenSpec.ofChange fnExactUniqueSumSpec)

/-- ITS FALSE NEIGHBOUR: 'it returns false'. Refute it at one input. -/
def fnExactUniqueSumWrong : ChangeSpec := { name := "fnExactUniqueSum", fn := fun _ => fun
  | [d1, d2] => { results := [.lit (.bool false)], args := [d1, d2] }
  | _ => none }
def FnExactUniqueSumWrongFalsely : Prop := fnExactUniqueSumRow.holds Try.pinned (OpenSpec.ofChange fnExactUniqueSumWrong)

/-- 'laws.FnExactNowProduct': WHATEVER THE INPUT: true; the input reads as it did. -/
def fnExactNowProductSpec : ChangeSpec := { name := "fnExactNowProduct", fn := fun _ => fun
  | [d] => { results := [.lit (.bool true)], args := [d] }
  | _ => none }
def fnExactNowProductRow : OpenClaim := { program := "ytmcjimmebbkjcaa", sum := "8b38dcb8acf7472cdfe5da859ac458b929a9e0da48f081db27f932608b4a668c", func := "loop.example/g00945/laws.FnExactNowProduct", spec := "fnExactNowProduct", unfollowed := true, recurses := true, apart := false }
def FnExactNowProductSaid : Prop := fnExactNowProductRow.holds Try.pinned (OpenSpec.ofChange fnExactNowProductSpec)

/-- ITS FALSE NEIGHBOUR: 'it returns false'. Refute it at one input. -/
def fnExactNowProductWrong : ChangeSpec := { name := "fnExactNowProduct", fn := fun _ => fun
  | [d] => { results := [.lit (.bool false)], args := [d] }
  | _ => none }
def FnExactNowProductWrongFalsely : Prop := fnExactNowProductRow.holds Try.pinned (OpenSpec.ofChange fnExactNowProductWrong)

/-- 'laws.FnExactNowSum': WHATEVER THE INPUT: true; the input reads as it did. -/
def fnExactNowSumSpec : ChangeSpec := { name := "fnExactNowSum", fn := fun _ => fun
  | [d] => { results := [.lit (.bool true)], args := [d] }
  | _ => none }
def fnExactNowSumRow : OpenClaim := { program := "ytmcjimmebbkjcaa", sum := "8b38dcb8acf7472cdfe5da859ac458b929a9e0da48f081db27f932608b4a668c", func := "loop.example/g00945/laws.FnExactNowSum", spec := "fnExactNowSum", unfollowed := true, recurses := true, apart := false }
def FnExactNowSumSaid : Prop := fnExactNowSumRow.holds Try.pinned (OpenSpec.ofChange fnExactNowSumSpec)

/-- ITS FALSE NEIGHBOUR: 'it returns false'. Refute it at one input. -/
def fnExactNowSumWrong : ChangeSpec := { name := "fnExactNowSum", fn := fun _ => fun
  | [d] => { results := [.lit (.bool false)], args := [d] }
  | _ => none }
def FnExactNowSumWrongFalsely : Prop := fnExactNowSumRow.holds Try.pinned (OpenSpec.ofChange fnExactNowSumWrong)

/-- 'laws.FnExactKnowsOwn': WHATEVER THE INPUT: true; the input reads as it did. -/
def fnExactKnowsOwnSpec : ChangeSpec := { name := "fnExactKnowsOwn", fn := fun _ => fun
  | [d1, d2, d3] => { results := [.lit (.bool true)], args := [d1, d2, d3] }
  | _ => none }
def fnExactKnowsOwnRow : OpenClaim := { program := "ytmcjimmebbkjcaa", sum := "8b38dcb8acf7472cdfe5da859ac458b929a9e0da48f081db27f932608b4a668c", func := "loop.example/g00945/laws.FnExactKnowsOwn", spec := "fnExactKnowsOwn", unfollowed := true, recurses := true, apart := false }
def FnExactKnowsOwnSaid : Prop := fnExactKnowsOwnRow.holds Try.pinned (OpenSpec.ofChange fnExactKnowsOwnSpec)

/-- ITS FALSE NEIGHBOUR: 'it returns false'. Refute it at one input. -/
def fnExactKnowsOwnWrong : ChangeSpec := { name := "fnExactKnowsOwn", fn := fun _ => fun
  | [d1, d2, d3] => { results := [.lit (.bool false)], args := [d1, d2, d3] }
  | _ => none }
def FnExactKnowsOwnWrongFalsely : Prop := fnExactKnowsOwnRow.holds Try.pinned (OpenSpec.ofChange fnExactKnowsOwnWrong)

/-- 'laws.FnExactAfterAnswer': WHATEVER THE INPUT: true; the input reads as it did. -/
def fnExactAfterAnswerSpec : ChangeSpec := { name := "fnExactAfterAnswer", fn := fun _ => fun
  | [d1, d2, d3] => { results := [.lit (.bool true)], args := [d1, d2, d3] }
  | _ => none }
def fnExactAfterAnswerRow : OpenClaim := { program := "ytmcjimmebbkjcaa", sum := "8b38dcb8acf7472cdfe5da859ac458b929a9e0da48f081db27f932608b4a668c", func := "loop.example/g00945/laws.FnExactAfterAnswer", spec := "fnExactAfterAnswer", unfollowed := true, recurses := true, apart := false }
def FnExactAfterAnswerSaid : Prop := fnExactAfterAnswerRow.holds Try.pinned (OpenSpec.ofChange fnExactAfterAnswerSpec)

/-- ITS FALSE NEIGHBOUR: 'it returns false'. Refute it at one input. -/
def fnExactAfterAnswerWrong : ChangeSpec := { name := "fnExactAfterAnswer", fn := fun _ => fun
  | [d1, d2, d3] => { results := [.lit (.bool false)], args := [d1, d2, d3] }
  | _ => none }
def FnExactAfterAnswerWrongFalsely : Prop := fnExactAfterAnswerRow.holds Try.pinned (OpenSpec.ofChange fnExactAfterAnswerWrong)

/-- 'laws.FnExactAnswersFor': WHATEVER THE INPUT: true; the input reads as it did. -/
def fnExactAnswersForSpec : ChangeSpec := { name := "fnExactAnswersFor", fn := fun _ => fun
  | [d1, d2] => { results := [.lit (.bool true)], args := [d1, d2] }
  | _ => none }
def fnExactAnswersForRow : OpenClaim := { program := "ytmcjimmebbkjcaa", sum := "8b38dcb8acf7472cdfe5da859ac458b929a9e0da48f081db27f932608b4a668c", func := "loop.example/g00945/laws.FnExactAnswersFor", spec := "fnExactAnswersFor", unfollowed := true, recurses := true, apart := false }
def FnExactAnswersForSaid : Prop := fnExactAnswersForRow.holds Try.pinned (OpenSpec.ofChange fnExactAnswersForSpec)

/-- ITS FALSE NEIGHBOUR: 'it returns false'. Refute it at one input. -/
def fnExactAnswersForWrong : ChangeSpec := { name := "fnExactAnswersFor", fn := fun _ => fun
  | [d1, d2] => { results := [.lit (.bool false)], args := [d1, d2] }
  | _ => none }
def FnExactAnswersForWrongFalsely : Prop := fnExactAnswersForRow.holds Try.pinned (OpenSpec.ofChange fnExactAnswersForWrong)

/-- 'laws.FnExactTurnOf': WHATEVER THE INPUT: true; the input reads as it did. -/
def fnExactTurnOfSpec : ChangeSpec := { name := "fnExactTurnOf", fn := fun _ => fun
  | [d1, d2] => { results := [.lit (.bool true)], args := [d1, d2] }
  | _ => none }
def fnExactTurnOfRow : OpenClaim := { program := "ytmcjimmebbkjcaa", sum := "8b38dcb8acf7472cdfe5da859ac458b929a9e0da48f081db27f932608b4a668c", func := "loop.example/g00945/laws.FnExactTurnOf", spec := "fnExactTurnOf", unfollowed := true, recurses := true, apart := false }
def FnExactTurnOfSaid : Prop := fnExactTurnOfRow.holds Try.pinned (OpenSpec.ofChange fnExactTurnOfSpec)

/-- ITS FALSE NEIGHBOUR: 'it returns false'. Refute it at one input. -/
def fnExactTurnOfWrong : ChangeSpec := { name := "fnExactTurnOf", fn := fun _ => fun
  | [d1, d2] => { results := [.lit (.bool false)], args := [d1, d2] }
  | _ => none }
def FnExactTurnOfWrongFalsely : Prop := fnExactTurnOfRow.holds Try.pinned (OpenSpec.ofChange fnExactTurnOfWrong)

/-- 'laws.FnExactPairsLeft': WHATEVER THE INPUT: true; the input reads as it did. -/
def fnExactPairsLeftSpec : ChangeSpec := { name := "fnExactPairsLeft", fn := fun _ => fun
  | [d1, d2] => { results := [.lit (.bool true)], args := [d1, d2] }
  | _ => none }
def fnExactPairsLeftRow : OpenClaim := { program := "ytmcjimmebbkjcaa", sum := "8b38dcb8acf7472cdfe5da859ac458b929a9e0da48f081db27f932608b4a668c", func := "loop.example/g00945/laws.FnExactPairsLeft", spec := "fnExactPairsLeft", unfollowed := true, recurses := true, apart := false }
def FnExactPairsLeftSaid : Prop := fnExactPairsLeftRow.holds Try.pinned (OpenSpec.ofChange fnExactPairsLeftSpec)

/-- ITS FALSE NEIGHBOUR: 'it returns false'. Refute it at one input. -/
def fnExactPairsLeftWrong : ChangeSpec := { name := "fnExactPairsLeft", fn := fun _ => fun
  | [d1, d2] => { results := [.lit (.bool false)], args := [d1, d2] }
  | _ => none }
def FnExactPairsLeftWrongFalsely : Prop := fnExactPairsLeftRow.holds Try.pinned (OpenSpec.ofChange fnExactPairsLeftWrong)

/-- 'laws.FnNumbers': WHATEVER THE INPUT: true; the input reads as it did. -/
def fnNumbersSpec : ChangeSpec := { name := "fnNumbers", fn := fun _ => fun
  | [d] => { results := [.lit (.bool true)], args := [d] }
  | _ => none }
def fnNumbersRow : OpenClaim := { program := "ytmcjimmebbkjcaa", sum := "8b38dcb8acf7472cdfe5da859ac458b929a9e0da48f081db27f932608b4a668c", func := "loop.example/g00945/laws.FnNumbers", spec := "fnNumbers", unfollowed := true, recurses := true, apart := false }
def FnNumbersSaid : Prop := fnNumbersRow.holds Try.pinned (OpenSpec.ofChange fnNumbersSpec)

/-- ITS FALSE NEIGHBOUR: 'it returns false'. Refute it at one input. -/
def fnNumbersWrong : ChangeSpec := { name := "fnNumbers", fn := fun _ => fun
  | [d] => { results := [.lit (.bool false)], args := [d] }
  | _ => none }
def FnNumbersWrongFalsely : Prop := fnNumbersRow.holds Try.pinned (OpenSpec.ofChange fnNumbersWrong)

/- THE SECOND FORM. 'bulk': how many values and letters a reading holds, each counted each time it is reached (what is shared counts as often as it is met; a slice's spare places count too). A statement '..UptoSaid' is the law's where the arguments, and the package variables that the reading takes, are together of bulk at most 1048576: NARROWER than '..Said'. Prove '..Said' where nothing that the law and all that it calls make is longer than what came in: it says more and counts as full. Else prove '..UptoSaid'. A law counts once. -/
mutual
def uptoBulk {H : Type} : DataW H → Nat
  | .lit (.string bytes) => bytes.length + 1
  | .lit _ => 1
  | .nil => 1
  | .ptr d => uptoBulk d + 1
  | .slice elems spare => uptoBulkAll elems + uptoBulkAll spare + 1
  | .agg parts => uptoBulkAll parts + 1
  | .iface _ d => uptoBulk d + 1
  | .map entries => uptoBulkEntries entries + 1
  | .held _ => 1
def uptoBulkAll {H : Type} : List (DataW H) → Nat
  | [] => 0
  | d :: r => uptoBulk d + uptoBulkAll r
def uptoBulkEntries {H : Type} : List (Lit × DataW H) → Nat
  | [] => 0
  | x :: r => uptoBulkEntry x + uptoBulkEntries r
def uptoBulkEntry {H : Type} : Lit × DataW H → Nat
  | (.string bytes, d) => bytes.length + uptoBulk d + 1
  | (_, d) => uptoBulk d + 1
 end
def uptoSmall : (H : Type) → List (DataW H) → Bool := fun _ ds => decide (uptoBulkAll ds ≤ 1048576)
def OpenSpec.upto (s : _root_.Go.ChangeSpec) : _root_.Go.OpenSpec := { _root_.Go.OpenSpec.ofChange s with cond := some uptoSmall }

/-- 'laws.FnExactSumPairs', WHERE WHAT IT READS IS OF BULK AT MOST 1048576: true; the input reads as it did. -/
def fnExactSumPairsUptoRow : OpenClaim := { program := "ytmcjimmebbkjcaa", sum := "8b38dcb8acf7472cdfe5da859ac458b929a9e0da48f081db27f932608b4a668c", func := "loop.example/g00945/laws.FnExactSumPairs", spec := "fnExactSumPairs", apart := false, narrowed := true }
def FnExactSumPairsUptoSaid : Prop := fnExactSumPairsUptoRow.holds Try.pinned (OpenSpec.upto fnExactSumPairsSpec)

/-- 'laws.FnExactUniqueProduct', WHERE WHAT IT READS IS OF BULK AT MOST 1048576: true; the input reads as it did. -/
def fnExactUniqueProductUptoRow : OpenClaim := { program := "ytmcjimmebbkjcaa", sum := "8b38dcb8acf7472cdfe5da859ac458b929a9e0da48f081db27f932608b4a668c", func := "loop.example/g00945/laws.FnExactUniqueProduct", spec := "fnExactUniqueProduct", unfollowed := true, recurses := true, apart := false, narrowed := true }
def FnExactUniqueProductUptoSaid : Prop := fnExactUniqueProductUptoRow.holds Try.pinned (OpenSpec.upto fnExactUniqueProductSpec)

/-- 'laws.FnExactUniqueSum', WHERE WHAT IT READS IS OF BULK AT MOST 1048576: true; the input reads as it did. -/
def fnExactUniqueSumUptoRow : OpenClaim := { program := "ytmcjimmebbkjcaa", sum := "8b38dcb8acf7472cdfe5da859ac458b929a9e0da48f081db27f932608b4a668c", func := "loop.example/g00945/laws.FnExactUniqueSum", spec := "fnExactUniqueSum", unfollowed := true, recurses := true, apart := false, narrowed := true }
def FnExactUniqueSumUptoSaid : Prop := fnExactUniqueSumUptoRow.holds Try.pinned (OpenSpec.upto fnExactUniqueSumSpec)

/-- 'laws.FnExactNowProduct', WHERE WHAT IT READS IS OF BULK AT MOST 1048576: true; the input reads as it did. -/
def fnExactNowProductUptoRow : OpenClaim := { program := "ytmcjimmebbkjcaa", sum := "8b38dcb8acf7472cdfe5da859ac458b929a9e0da48f081db27f932608b4a668c", func := "loop.example/g00945/laws.FnExactNowProduct", spec := "fnExactNowProduct", unfollowed := true, recurses := true, apart := false, narrowed := true }
def FnExactNowProductUptoSaid : Prop := fnExactNowProductUptoRow.holds Try.pinned (OpenSpec.upto fnExactNowProductSpec)

/-- 'laws.FnExactNowSum', WHERE WHAT IT READS IS OF BULK AT MOST 1048576: true; the input reads as it did. -/
def fnExactNowSumUptoRow : OpenClaim := { program := "ytmcjimmebbkjcaa", sum := "8b38dcb8acf7472cdfe5da859ac458b929a9e0da48f081db27f932608b4a668c", func := "loop.example/g00945/laws.FnExactNowSum", spec := "fnExactNowSum", unfollowed := true, recurses := true, apart := false, narrowed := true }
def FnExactNowSumUptoSaid : Prop := fnExactNowSumUptoRow.holds Try.pinned (OpenSpec.upto fnExactNowSumSpec)

/-- 'laws.FnExactKnowsOwn', WHERE WHAT IT READS IS OF BULK AT MOST 1048576: true; the input reads as it did. -/
def fnExactKnowsOwnUptoRow : OpenClaim := { program := "ytmcjimmebbkjcaa", sum := "8b38dcb8acf7472cdfe5da859ac458b929a9e0da48f081db27f932608b4a668c", func := "loop.example/g00945/laws.FnExactKnowsOwn", spec := "fnExactKnowsOwn", unfollowed := true, recurses := true, apart := false, narrowed := true }
def FnExactKnowsOwnUptoSaid : Prop := fnExactKnowsOwnUptoRow.holds Try.pinned (OpenSpec.upto fnExactKnowsOwnSpec)

/-- 'laws.FnExactAfterAnswer', WHERE WHAT IT READS IS OF BULK AT MOST 1048576: true; the input reads as it did. -/
def fnExactAfterAnswerUptoRow : OpenClaim := { program := "ytmcjimmebbkjcaa", sum := "8b38dcb8acf7472cdfe5da859ac458b929a9e0da48f081db27f932608b4a668c", func := "loop.example/g00945/laws.FnExactAfterAnswer", spec := "fnExactAfterAnswer", unfollowed := true, recurses := true, apart := false, narrowed := true }
def FnExactAfterAnswerUptoSaid : Prop := fnExactAfterAnswerUptoRow.holds Try.pinned (OpenSpec.upto fnExactAfterAnswerSpec)

/-- 'laws.FnExactAnswersFor', WHERE WHAT IT READS IS OF BULK AT MOST 1048576: true; the input reads as it did. -/
def fnExactAnswersForUptoRow : OpenClaim := { program := "ytmcjimmebbkjcaa", sum := "8b38dcb8acf7472cdfe5da859ac458b929a9e0da48f081db27f932608b4a668c", func := "loop.example/g00945/laws.FnExactAnswersFor", spec := "fnExactAnswersFor", unfollowed := true, recurses := true, apart := false, narrowed := true }
def FnExactAnswersForUptoSaid : Prop := fnExactAnswersForUptoRow.holds Try.pinned (OpenSpec.upto fnExactAnswersForSpec)

/-- 'laws.FnExactTurnOf', WHERE WHAT IT READS IS OF BULK AT MOST 1048576: true; the input reads as it did. -/
def fnExactTurnOfUptoRow : OpenClaim := { program := "ytmcjimmebbkjcaa", sum := "8b38dcb8acf7472cdfe5da859ac458b929a9e0da48f081db27f932608b4a668c", func := "loop.example/g00945/laws.FnExactTurnOf", spec := "fnExactTurnOf", unfollowed := true, recurses := true, apart := false, narrowed := true }
def FnExactTurnOfUptoSaid : Prop := fnExactTurnOfUptoRow.holds Try.pinned (OpenSpec.upto fnExactTurnOfSpec)

/-- 'laws.FnExactPairsLeft', WHERE WHAT IT READS IS OF BULK AT MOST 1048576: true; the input reads as it did. -/
def fnExactPairsLeftUptoRow : OpenClaim := { program := "ytmcjimmebbkjcaa", sum := "8b38dcb8acf7472cdfe5da859ac458b929a9e0da48f081db27f932608b4a668c", func := "loop.example/g00945/laws.FnExactPairsLeft", spec := "fnExactPairsLeft", unfollowed := true, recurses := true, apart := false, narrowed := true }
def FnExactPairsLeftUptoSaid : Prop := fnExactPairsLeftUptoRow.holds Try.pinned (OpenSpec.upto fnExactPairsLeftSpec)

/-- 'laws.FnNumbers', WHERE WHAT IT READS IS OF BULK AT MOST 1048576: true; the input reads as it did. -/
def fnNumbersUptoRow : OpenClaim := { program := "ytmcjimmebbkjcaa", sum := "8b38dcb8acf7472cdfe5da859ac458b929a9e0da48f081db27f932608b4a668c", func := "loop.example/g00945/laws.FnNumbers", spec := "fnNumbers", unfollowed := true, recurses := true, apart := false, narrowed := true }
def FnNumbersUptoSaid : Prop := fnNumbersUptoRow.holds Try.pinned (OpenSpec.upto fnNumbersSpec)

end Rows
end Go.Proofs.Ytmcjimmebbkjcaa
