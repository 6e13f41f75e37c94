/-
  No cell of these rows narrows 'for every input' (looked for: loops, veiled, ifaces, maps, wideKeys, modest, calm, conditions, laid).
  DERIVED. THE GIVEN ROWS OF THIS SEAT. 10 by the template 'for every input the law returns true; each argument reads behind the call as it read before'; 0 by the template 'total and deterministic' (their statements: YtcdccdcalmnocaaTotals.lean).
  GIVEN WITH THE SEED: the statements are not yours to turn. If you find one false, say at which input.
  Laid BY PROGRAM, IN A SANDBOX (cutbox-rows.mjs): the forced cells as the released guide's own fill.sh prints them over the translation 480b7999b5b91fe9… (all of the seat's roots in one cut). By AI agents, Wed Nov 11 2026. No macro, syntax, notation, axiom, sorry.
-/
import Derived.Test.YtcdccdcalmnocaaChecked
import GoSem.Claim
import GoSem.ClaimJoined
import GoSem.ClaimMapViews
import Derived.JoinedTies
import Derived.KernelRfl
namespace Go.Proofs.Ytcdccdcalmnocaa
/- THE CELL 'sum', in the pinned program and in every row, IS THE sha256 OF THE DUMP (.gsa) THAT YtcdccdcalmnocaaProg.lean LOADS. Nothing in Lean hashes anything: it is a label: what it is worth is what the hold of that sum in a sandbox is worth. -/
noncomputable def Try.pinned : Pinned := { name := "ytcdccdcalmnocaa", sum := "480b7999b5b91fe95971a051f3f2607670ead1d92d50dcde9d26b98856ecedda", checked := Try.checked }
namespace Rows
def none {H : Type} : Left H := { results := [], args := [] }

/-- 'laws.FnExactFormulaOk': WHATEVER THE INPUT: true; the input reads as it did. -/
def fnExactFormulaOkSpec : ChangeSpec := { name := "fnExactFormulaOk", fn := fun _ => fun
  | [d] => { results := [.lit (.bool true)], args := [d] }
  | _ => none }
def fnExactFormulaOkRow : OpenClaim := { program := "ytcdccdcalmnocaa", sum := "480b7999b5b91fe95971a051f3f2607670ead1d92d50dcde9d26b98856ecedda", func := "loop.example/g00945/laws.FnExactFormulaOk", spec := "fnExactFormulaOk", apart := false }
def FnExactFormulaOkSaid : Prop := fnExactFormulaOkRow.holds Try.pinned (OpenSpec.ofChange fnExactFormulaOkSpec)

/-- ITS FALSE NEIGHBOUR: 'it returns false'. Refute it at one input. -/
def fnExactFormulaOkWrong : ChangeSpec := { name := "fnExactFormulaOk", fn := fun _ => fun
  | [d] => { results := [.lit (.bool false)], args := [d] }
  | _ => none }
def FnExactFormulaOkWrongFalsely : Prop := fnExactFormulaOkRow.holds Try.pinned (OpenSpec.ofChange fnExactFormulaOkWrong)

/-- 'laws.FnExactFormatFormula': WHATEVER THE INPUT: true; the input reads as it did. -/
def fnExactFormatFormulaSpec : ChangeSpec := { name := "fnExactFormatFormula", fn := fun _ => fun
  | [d] => { results := [.lit (.bool true)], args := [d] }
  | _ => none }
def fnExactFormatFormulaRow : OpenClaim := { program := "ytcdccdcalmnocaa", sum := "480b7999b5b91fe95971a051f3f2607670ead1d92d50dcde9d26b98856ecedda", func := "loop.example/g00945/laws.FnExactFormatFormula", spec := "fnExactFormatFormula", unfollowed := true, recurses := true, apart := false }
def FnExactFormatFormulaSaid : Prop := fnExactFormatFormulaRow.holds Try.pinned (OpenSpec.ofChange fnExactFormatFormulaSpec)

/-- ITS FALSE NEIGHBOUR: 'it returns false'. Refute it at one input. -/
def fnExactFormatFormulaWrong : ChangeSpec := { name := "fnExactFormatFormula", fn := fun _ => fun
  | [d] => { results := [.lit (.bool false)], args := [d] }
  | _ => none }
def FnExactFormatFormulaWrongFalsely : Prop := fnExactFormatFormulaRow.holds Try.pinned (OpenSpec.ofChange fnExactFormatFormulaWrong)

/-- 'laws.FnExactParseFormula': WHATEVER THE INPUT: true; the input reads as it did. -/
def fnExactParseFormulaSpec : ChangeSpec := { name := "fnExactParseFormula", fn := fun _ => fun
  | [d] => { results := [.lit (.bool true)], args := [d] }
  | _ => none }
def fnExactParseFormulaRow : OpenClaim := { program := "ytcdccdcalmnocaa", sum := "480b7999b5b91fe95971a051f3f2607670ead1d92d50dcde9d26b98856ecedda", func := "loop.example/g00945/laws.FnExactParseFormula", spec := "fnExactParseFormula", inPlace := ["internal/bytealg.IndexByteString"], unfollowed := true, recurses := true, apart := false }
def FnExactParseFormulaSaid : Prop := fnExactParseFormulaRow.holds Try.pinned (OpenSpec.ofChange fnExactParseFormulaSpec)

/-- ITS FALSE NEIGHBOUR: 'it returns false'. Refute it at one input. -/
def fnExactParseFormulaWrong : ChangeSpec := { name := "fnExactParseFormula", fn := fun _ => fun
  | [d] => { results := [.lit (.bool false)], args := [d] }
  | _ => none }
def FnExactParseFormulaWrongFalsely : Prop := fnExactParseFormulaRow.holds Try.pinned (OpenSpec.ofChange fnExactParseFormulaWrong)

/-- 'laws.FnExactSameFormula': WHATEVER THE INPUT: true; the input reads as it did. -/
def fnExactSameFormulaSpec : ChangeSpec := { name := "fnExactSameFormula", fn := fun _ => fun
  | [d1, d2] => { results := [.lit (.bool true)], args := [d1, d2] }
  | _ => none }
def fnExactSameFormulaRow : OpenClaim := { program := "ytcdccdcalmnocaa", sum := "480b7999b5b91fe95971a051f3f2607670ead1d92d50dcde9d26b98856ecedda", func := "loop.example/g00945/laws.FnExactSameFormula", spec := "fnExactSameFormula", unfollowed := true, recurses := true, apart := false }
def FnExactSameFormulaSaid : Prop := fnExactSameFormulaRow.holds Try.pinned (OpenSpec.ofChange fnExactSameFormulaSpec)

/-- ITS FALSE NEIGHBOUR: 'it returns false'. Refute it at one input. -/
def fnExactSameFormulaWrong : ChangeSpec := { name := "fnExactSameFormula", fn := fun _ => fun
  | [d1, d2] => { results := [.lit (.bool false)], args := [d1, d2] }
  | _ => none }
def FnExactSameFormulaWrongFalsely : Prop := fnExactSameFormulaRow.holds Try.pinned (OpenSpec.ofChange fnExactSameFormulaWrong)

/-- 'laws.FnExactDepthOf': WHATEVER THE INPUT: true; the input reads as it did. -/
def fnExactDepthOfSpec : ChangeSpec := { name := "fnExactDepthOf", fn := fun _ => fun
  | [d] => { results := [.lit (.bool true)], args := [d] }
  | _ => none }
def fnExactDepthOfRow : OpenClaim := { program := "ytcdccdcalmnocaa", sum := "480b7999b5b91fe95971a051f3f2607670ead1d92d50dcde9d26b98856ecedda", func := "loop.example/g00945/laws.FnExactDepthOf", spec := "fnExactDepthOf", unfollowed := true, recurses := true, apart := false }
def FnExactDepthOfSaid : Prop := fnExactDepthOfRow.holds Try.pinned (OpenSpec.ofChange fnExactDepthOfSpec)

/-- ITS FALSE NEIGHBOUR: 'it returns false'. Refute it at one input. -/
def fnExactDepthOfWrong : ChangeSpec := { name := "fnExactDepthOf", fn := fun _ => fun
  | [d] => { results := [.lit (.bool false)], args := [d] }
  | _ => none }
def FnExactDepthOfWrongFalsely : Prop := fnExactDepthOfRow.holds Try.pinned (OpenSpec.ofChange fnExactDepthOfWrong)

/-- 'laws.FnExactCountOp': WHATEVER THE INPUT: true; the input reads as it did. -/
def fnExactCountOpSpec : ChangeSpec := { name := "fnExactCountOp", fn := fun _ => fun
  | [d1, d2] => { results := [.lit (.bool true)], args := [d1, d2] }
  | _ => none }
def fnExactCountOpRow : OpenClaim := { program := "ytcdccdcalmnocaa", sum := "480b7999b5b91fe95971a051f3f2607670ead1d92d50dcde9d26b98856ecedda", func := "loop.example/g00945/laws.FnExactCountOp", spec := "fnExactCountOp", apart := false }
def FnExactCountOpSaid : Prop := fnExactCountOpRow.holds Try.pinned (OpenSpec.ofChange fnExactCountOpSpec)

/-- ITS FALSE NEIGHBOUR: 'it returns false'. Refute it at one input. -/
def fnExactCountOpWrong : ChangeSpec := { name := "fnExactCountOp", fn := fun _ => fun
  | [d1, d2] => { results := [.lit (.bool false)], args := [d1, d2] }
  | _ => none }
def FnExactCountOpWrongFalsely : Prop := fnExactCountOpRow.holds Try.pinned (OpenSpec.ofChange fnExactCountOpWrong)

/-- 'laws.FnExactNegate': WHATEVER THE INPUT: true; the input reads as it did. -/
def fnExactNegateSpec : ChangeSpec := { name := "fnExactNegate", fn := fun _ => fun
  | [d] => { results := [.lit (.bool true)], args := [d] }
  | _ => none }
def fnExactNegateRow : OpenClaim := { program := "ytcdccdcalmnocaa", sum := "480b7999b5b91fe95971a051f3f2607670ead1d92d50dcde9d26b98856ecedda", func := "loop.example/g00945/laws.FnExactNegate", spec := "fnExactNegate", unfollowed := true, recurses := true, apart := false }
def FnExactNegateSaid : Prop := fnExactNegateRow.holds Try.pinned (OpenSpec.ofChange fnExactNegateSpec)

/-- ITS FALSE NEIGHBOUR: 'it returns false'. Refute it at one input. -/
def fnExactNegateWrong : ChangeSpec := { name := "fnExactNegate", fn := fun _ => fun
  | [d] => { results := [.lit (.bool false)], args := [d] }
  | _ => none }
def FnExactNegateWrongFalsely : Prop := fnExactNegateRow.holds Try.pinned (OpenSpec.ofChange fnExactNegateWrong)

/-- 'laws.FnExactConjoin': WHATEVER THE INPUT: true; the input reads as it did. -/
def fnExactConjoinSpec : ChangeSpec := { name := "fnExactConjoin", fn := fun _ => fun
  | [d1, d2] => { results := [.lit (.bool true)], args := [d1, d2] }
  | _ => none }
def fnExactConjoinRow : OpenClaim := { program := "ytcdccdcalmnocaa", sum := "480b7999b5b91fe95971a051f3f2607670ead1d92d50dcde9d26b98856ecedda", func := "loop.example/g00945/laws.FnExactConjoin", spec := "fnExactConjoin", unfollowed := true, recurses := true, apart := false }
def FnExactConjoinSaid : Prop := fnExactConjoinRow.holds Try.pinned (OpenSpec.ofChange fnExactConjoinSpec)

/-- ITS FALSE NEIGHBOUR: 'it returns false'. Refute it at one input. -/
def fnExactConjoinWrong : ChangeSpec := { name := "fnExactConjoin", fn := fun _ => fun
  | [d1, d2] => { results := [.lit (.bool false)], args := [d1, d2] }
  | _ => none }
def FnExactConjoinWrongFalsely : Prop := fnExactConjoinRow.holds Try.pinned (OpenSpec.ofChange fnExactConjoinWrong)

/-- 'laws.FnExactKnown': WHATEVER THE INPUT: true; the input reads as it did. -/
def fnExactKnownSpec : ChangeSpec := { name := "fnExactKnown", fn := fun _ => fun
  | [d1, d2] => { results := [.lit (.bool true)], args := [d1, d2] }
  | _ => none }
def fnExactKnownRow : OpenClaim := { program := "ytcdccdcalmnocaa", sum := "480b7999b5b91fe95971a051f3f2607670ead1d92d50dcde9d26b98856ecedda", func := "loop.example/g00945/laws.FnExactKnown", spec := "fnExactKnown", unfollowed := true, recurses := true, apart := false }
def FnExactKnownSaid : Prop := fnExactKnownRow.holds Try.pinned (OpenSpec.ofChange fnExactKnownSpec)

/-- ITS FALSE NEIGHBOUR: 'it returns false'. Refute it at one input. -/
def fnExactKnownWrong : ChangeSpec := { name := "fnExactKnown", fn := fun _ => fun
  | [d1, d2] => { results := [.lit (.bool false)], args := [d1, d2] }
  | _ => none }
def FnExactKnownWrongFalsely : Prop := fnExactKnownRow.holds Try.pinned (OpenSpec.ofChange fnExactKnownWrong)

/-- 'laws.FnExactAfter': WHATEVER THE INPUT: true; the input reads as it did. -/
def fnExactAfterSpec : ChangeSpec := { name := "fnExactAfter", fn := fun _ => fun
  | [d1, d2] => { results := [.lit (.bool true)], args := [d1, d2] }
  | _ => none }
def fnExactAfterRow : OpenClaim := { program := "ytcdccdcalmnocaa", sum := "480b7999b5b91fe95971a051f3f2607670ead1d92d50dcde9d26b98856ecedda", func := "loop.example/g00945/laws.FnExactAfter", spec := "fnExactAfter", unfollowed := true, recurses := true, apart := false }
def FnExactAfterSaid : Prop := fnExactAfterRow.holds Try.pinned (OpenSpec.ofChange fnExactAfterSpec)

/-- ITS FALSE NEIGHBOUR: 'it returns false'. Refute it at one input. -/
def fnExactAfterWrong : ChangeSpec := { name := "fnExactAfter", fn := fun _ => fun
  | [d1, d2] => { results := [.lit (.bool false)], args := [d1, d2] }
  | _ => none }
def FnExactAfterWrongFalsely : Prop := fnExactAfterRow.holds Try.pinned (OpenSpec.ofChange fnExactAfterWrong)

/- THE SECOND FORM. 'bulk': how many values and letters a reading holds, each counted each time it is reached (what is shared counts as often as it is met; a slice's spare places count too). A statement '..UptoSaid' is the law's where the arguments, and the package variables that the reading takes, are together of bulk at most 1048576: NARROWER than '..Said'. Prove '..Said' where nothing that the law and all that it calls make is longer than what came in: it says more and counts as full. Else prove '..UptoSaid'. A law counts once. -/
mutual
def uptoBulk {H : Type} : DataW H → Nat
  | .lit (.string bytes) => bytes.length + 1
  | .lit _ => 1
  | .nil => 1
  | .ptr d => uptoBulk d + 1
  | .slice elems spare => uptoBulkAll elems + uptoBulkAll spare + 1
  | .agg parts => uptoBulkAll parts + 1
  | .iface _ d => uptoBulk d + 1
  | .map entries => uptoBulkEntries entries + 1
  | .held _ => 1
def uptoBulkAll {H : Type} : List (DataW H) → Nat
  | [] => 0
  | d :: r => uptoBulk d + uptoBulkAll r
def uptoBulkEntries {H : Type} : List (Lit × DataW H) → Nat
  | [] => 0
  | x :: r => uptoBulkEntry x + uptoBulkEntries r
def uptoBulkEntry {H : Type} : Lit × DataW H → Nat
  | (.string bytes, d) => bytes.length + uptoBulk d + 1
  | (_, d) => uptoBulk d + 1
 end
def uptoSmall : (H : Type) → List (DataW H) → Bool := fun _ ds => decide (uptoBulkAll ds ≤ 1048576)
def OpenSpec.upto (s : _root_.Go.ChangeSpec) : _root_.Go.OpenSpec := { _root_.Go.OpenSpec.ofChange s with cond := some uptoSmall }

/-- 'laws.FnExactFormulaOk', WHERE WHAT IT READS IS OF BULK AT MOST 1048576: true; the input reads as it did. -/
def fnExactFormulaOkUptoRow : OpenClaim := { program := "ytcdccdcalmnocaa", sum := "480b7999b5b91fe95971a051f3f2607670ead1d92d50dcde9d26b98856ecedda", func := "loop.example/g00945/laws.FnExactFormulaOk", spec := "fnExactFormulaOk", apart := false, narrowed := true }
def FnExactFormulaOkUptoSaid : Prop := fnExactFormulaOkUptoRow.holds Try.pinned (OpenSpec.upto fnExactFormulaOkSpec)

/-- 'laws.FnExactFormatFormula', WHERE WHAT IT READS IS OF BULK AT MOST 1048576: true; the input reads as it did. -/
def fnExactFormatFormulaUptoRow : OpenClaim := { program := "ytcdccdcalmnocaa", sum := "480b7999b5b91fe95971a051f3f2607670ead1d92d50dcde9d26b98856ecedda", func := "loop.example/g00945/laws.FnExactFormatFormula", spec := "fnExactFormatFormula", unfollowed := true, recurses := true, apart := false, narrowed := true }
def FnExactFormatFormulaUptoSaid : Prop := fnExactFormatFormulaUptoRow.holds Try.pinned (OpenSpec.upto fnExactFormatFormulaSpec)

/-- 'laws.FnExactParseFormula', WHERE WHAT IT READS IS OF BULK AT MOST 1048576: true; the input reads as it did. -/
def fnExactParseFormulaUptoRow : OpenClaim := { program := "ytcdccdcalmnocaa", sum := "480b7999b5b91fe95971a051f3f2607670ead1d92d50dcde9d26b98856ecedda", func := "loop.example/g00945/laws.FnExactParseFormula", spec := "fnExactParseFormula", inPlace := ["internal/bytealg.IndexByteString"], unfollowed := true, recurses := true, apart := false, narrowed := true }
def FnExactParseFormulaUptoSaid : Prop := fnExactParseFormulaUptoRow.holds Try.pinned (OpenSpec.upto fnExactParseFormulaSpec)

/-- 'laws.FnExactSameFormula', WHERE WHAT IT READS IS OF BULK AT MOST 1048576: true; the input reads as it did. -/
def fnExactSameFormulaUptoRow : OpenClaim := { program := "ytcdccdcalmnocaa", sum := "480b7999b5b91fe95971a051f3f2607670ead1d92d50dcde9d26b98856ecedda", func := "loop.example/g00945/laws.FnExactSameFormula", spec := "fnExactSameFormula", unfollowed := true, recurses := true, apart := false, narrowed := true }
def FnExactSameFormulaUptoSaid : Prop := fnExactSameFormulaUptoRow.holds Try.pinned (OpenSpec.upto fnExactSameFormulaSpec)

/-- 'laws.FnExactDepthOf', WHERE WHAT IT READS IS OF BULK AT MOST 1048576: true; the input reads as it did. -/
def fnExactDepthOfUptoRow : OpenClaim := { program := "ytcdccdcalmnocaa", sum := "480b7999b5b91fe95971a051f3f2607670ead1d92d50dcde9d26b98856ecedda", func := "loop.example/g00945/laws.FnExactDepthOf", spec := "fnExactDepthOf", unfollowed := true, recurses := true, apart := false, narrowed := true }
def FnExactDepthOfUptoSaid : Prop := fnExactDepthOfUptoRow.holds Try.pinned (OpenSpec.upto fnExactDepthOfSpec)

/-- 'laws.FnExactCountOp', WHERE WHAT IT READS IS OF BULK AT MOST 1048576: true; the input reads as it did. -/
def fnExactCountOpUptoRow : OpenClaim := { program := "ytcdccdcalmnocaa", sum := "480b7999b5b91fe95971a051f3f2607670ead1d92d50dcde9d26b98856ecedda", func := "loop.example/g00945/laws.FnExactCountOp", spec := "fnExactCountOp", apart := false, narrowed := true }
def FnExactCountOpUptoSaid : Prop := fnExactCountOpUptoRow.holds Try.pinned (OpenSpec.upto fnExactCountOpSpec)

/-- 'laws.FnExactNegate', WHERE WHAT IT READS IS OF BULK AT MOST 1048576: true; the input reads as it did. -/
def fnExactNegateUptoRow : OpenClaim := { program := "ytcdccdcalmnocaa", sum := "480b7999b5b91fe95971a051f3f2607670ead1d92d50dcde9d26b98856ecedda", func := "loop.example/g00945/laws.FnExactNegate", spec := "fnExactNegate", unfollowed := true, recurses := true, apart := false, narrowed := true }
def FnExactNegateUptoSaid : Prop := fnExactNegateUptoRow.holds Try.pinned (OpenSpec.upto fnExactNegateSpec)

/-- 'laws.FnExactConjoin', WHERE WHAT IT READS IS OF BULK AT MOST 1048576: true; the input reads as it did. -/
def fnExactConjoinUptoRow : OpenClaim := { program := "ytcdccdcalmnocaa", sum := "480b7999b5b91fe95971a051f3f2607670ead1d92d50dcde9d26b98856ecedda", func := "loop.example/g00945/laws.FnExactConjoin", spec := "fnExactConjoin", unfollowed := true, recurses := true, apart := false, narrowed := true }
def FnExactConjoinUptoSaid : Prop := fnExactConjoinUptoRow.holds Try.pinned (OpenSpec.upto fnExactConjoinSpec)

/-- 'laws.FnExactKnown', WHERE WHAT IT READS IS OF BULK AT MOST 1048576: true; the input reads as it did. -/
def fnExactKnownUptoRow : OpenClaim := { program := "ytcdccdcalmnocaa", sum := "480b7999b5b91fe95971a051f3f2607670ead1d92d50dcde9d26b98856ecedda", func := "loop.example/g00945/laws.FnExactKnown", spec := "fnExactKnown", unfollowed := true, recurses := true, apart := false, narrowed := true }
def FnExactKnownUptoSaid : Prop := fnExactKnownUptoRow.holds Try.pinned (OpenSpec.upto fnExactKnownSpec)

/-- 'laws.FnExactAfter', WHERE WHAT IT READS IS OF BULK AT MOST 1048576: true; the input reads as it did. -/
def fnExactAfterUptoRow : OpenClaim := { program := "ytcdccdcalmnocaa", sum := "480b7999b5b91fe95971a051f3f2607670ead1d92d50dcde9d26b98856ecedda", func := "loop.example/g00945/laws.FnExactAfter", spec := "fnExactAfter", unfollowed := true, recurses := true, apart := false, narrowed := true }
def FnExactAfterUptoSaid : Prop := fnExactAfterUptoRow.holds Try.pinned (OpenSpec.upto fnExactAfterSpec)

end Rows
end Go.Proofs.Ytcdccdcalmnocaa
