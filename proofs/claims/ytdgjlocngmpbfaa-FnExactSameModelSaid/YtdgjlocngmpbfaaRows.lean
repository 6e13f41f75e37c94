/-
  No cell of these rows narrows 'for every input' (looked for: loops, veiled, ifaces, maps, wideKeys, modest, calm, conditions, laid).
  DERIVED. THE GIVEN ROWS OF THIS SEAT. 11 by the template 'for every input the law returns true; each argument reads behind the call as it read before'; 0 by the template 'total and deterministic' (their statements: YtdgjlocngmpbfaaTotals.lean).
  GIVEN WITH THE SEED: the statements are not yours to turn. If you find one false, say at which input.
  Laid BY PROGRAM, IN A SANDBOX (cutbox-rows.mjs): the forced cells as the released guide's own fill.sh prints them over the translation d9a59001fbe5e922… (all of the seat's roots in one cut). By AI agents, Wed Nov 11 2026. No macro, syntax, notation, axiom, sorry.
-/
import Derived.Test.YtdgjlocngmpbfaaChecked
import GoSem.Claim
import GoSem.ClaimJoined
import GoSem.ClaimMapViews
import Derived.JoinedTies
import Derived.KernelRfl
namespace Go.Proofs.Ytdgjlocngmpbfaa
/- THE CELL 'sum', in the pinned program and in every row, IS THE sha256 OF THE DUMP (.gsa) THAT YtdgjlocngmpbfaaProg.lean LOADS. Nothing in Lean hashes anything: it is a label: what it is worth is what the hold of that sum in a sandbox is worth. -/
noncomputable def Try.pinned : Pinned := { name := "ytdgjlocngmpbfaa", sum := "d9a59001fbe5e9227a7f5de316076648e6e829b5009670da23b93f1a7247c38d", checked := Try.checked }
namespace Rows
def none {H : Type} : Left H := { results := [], args := [] }

/-- 'laws.FnModels': WHATEVER THE INPUT: true; the input reads as it did. -/
def fnModelsSpec : ChangeSpec := { name := "fnModels", fn := fun _ => fun
  | [d] => { results := [.lit (.bool true)], args := [d] }
  | _ => none }
def fnModelsRow : OpenClaim := { program := "ytdgjlocngmpbfaa", sum := "d9a59001fbe5e9227a7f5de316076648e6e829b5009670da23b93f1a7247c38d", func := "loop.example/g00945/laws.FnModels", spec := "fnModels", unfollowed := true, recurses := true, apart := false }
def FnModelsSaid : Prop := fnModelsRow.holds Try.pinned (OpenSpec.ofChange fnModelsSpec)

/-- ITS FALSE NEIGHBOUR: 'it returns false'. Refute it at one input. -/
def fnModelsWrong : ChangeSpec := { name := "fnModels", fn := fun _ => fun
  | [d] => { results := [.lit (.bool false)], args := [d] }
  | _ => none }
def FnModelsWrongFalsely : Prop := fnModelsRow.holds Try.pinned (OpenSpec.ofChange fnModelsWrong)

/-- 'laws.FnExactModelOk': WHATEVER THE INPUT: true; the input reads as it did. -/
def fnExactModelOkSpec : ChangeSpec := { name := "fnExactModelOk", fn := fun _ => fun
  | [d] => { results := [.lit (.bool true)], args := [d] }
  | _ => none }
def fnExactModelOkRow : OpenClaim := { program := "ytdgjlocngmpbfaa", sum := "d9a59001fbe5e9227a7f5de316076648e6e829b5009670da23b93f1a7247c38d", func := "loop.example/g00945/laws.FnExactModelOk", spec := "fnExactModelOk", apart := false }
def FnExactModelOkSaid : Prop := fnExactModelOkRow.holds Try.pinned (OpenSpec.ofChange fnExactModelOkSpec)

/-- ITS FALSE NEIGHBOUR: 'it returns false'. Refute it at one input. -/
def fnExactModelOkWrong : ChangeSpec := { name := "fnExactModelOk", fn := fun _ => fun
  | [d] => { results := [.lit (.bool false)], args := [d] }
  | _ => none }
def FnExactModelOkWrongFalsely : Prop := fnExactModelOkRow.holds Try.pinned (OpenSpec.ofChange fnExactModelOkWrong)

/-- 'laws.FnExactCountWorlds': WHATEVER THE INPUT: true; the input reads as it did. -/
def fnExactCountWorldsSpec : ChangeSpec := { name := "fnExactCountWorlds", fn := fun _ => fun
  | [d] => { results := [.lit (.bool true)], args := [d] }
  | _ => none }
def fnExactCountWorldsRow : OpenClaim := { program := "ytdgjlocngmpbfaa", sum := "d9a59001fbe5e9227a7f5de316076648e6e829b5009670da23b93f1a7247c38d", func := "loop.example/g00945/laws.FnExactCountWorlds", spec := "fnExactCountWorlds", apart := false }
def FnExactCountWorldsSaid : Prop := fnExactCountWorldsRow.holds Try.pinned (OpenSpec.ofChange fnExactCountWorldsSpec)

/-- ITS FALSE NEIGHBOUR: 'it returns false'. Refute it at one input. -/
def fnExactCountWorldsWrong : ChangeSpec := { name := "fnExactCountWorlds", fn := fun _ => fun
  | [d] => { results := [.lit (.bool false)], args := [d] }
  | _ => none }
def FnExactCountWorldsWrongFalsely : Prop := fnExactCountWorldsRow.holds Try.pinned (OpenSpec.ofChange fnExactCountWorldsWrong)

/-- 'laws.FnExactNumberBlocks': WHATEVER THE INPUT: true; the input reads as it did. -/
def fnExactNumberBlocksSpec : ChangeSpec := { name := "fnExactNumberBlocks", fn := fun _ => fun
  | [d] => { results := [.lit (.bool true)], args := [d] }
  | _ => none }
def fnExactNumberBlocksRow : OpenClaim := { program := "ytdgjlocngmpbfaa", sum := "d9a59001fbe5e9227a7f5de316076648e6e829b5009670da23b93f1a7247c38d", func := "loop.example/g00945/laws.FnExactNumberBlocks", spec := "fnExactNumberBlocks", apart := false }
def FnExactNumberBlocksSaid : Prop := fnExactNumberBlocksRow.holds Try.pinned (OpenSpec.ofChange fnExactNumberBlocksSpec)

/-- ITS FALSE NEIGHBOUR: 'it returns false'. Refute it at one input. -/
def fnExactNumberBlocksWrong : ChangeSpec := { name := "fnExactNumberBlocks", fn := fun _ => fun
  | [d] => { results := [.lit (.bool false)], args := [d] }
  | _ => none }
def FnExactNumberBlocksWrongFalsely : Prop := fnExactNumberBlocksRow.holds Try.pinned (OpenSpec.ofChange fnExactNumberBlocksWrong)

/-- 'laws.FnExactSameBlock': WHATEVER THE INPUT: true; the input reads as it did. -/
def fnExactSameBlockSpec : ChangeSpec := { name := "fnExactSameBlock", fn := fun _ => fun
  | [d1, d2, d3, d4] => { results := [.lit (.bool true)], args := [d1, d2, d3, d4] }
  | _ => none }
def fnExactSameBlockRow : OpenClaim := { program := "ytdgjlocngmpbfaa", sum := "d9a59001fbe5e9227a7f5de316076648e6e829b5009670da23b93f1a7247c38d", func := "loop.example/g00945/laws.FnExactSameBlock", spec := "fnExactSameBlock", apart := false }
def FnExactSameBlockSaid : Prop := fnExactSameBlockRow.holds Try.pinned (OpenSpec.ofChange fnExactSameBlockSpec)

/-- ITS FALSE NEIGHBOUR: 'it returns false'. Refute it at one input. -/
def fnExactSameBlockWrong : ChangeSpec := { name := "fnExactSameBlock", fn := fun _ => fun
  | [d1, d2, d3, d4] => { results := [.lit (.bool false)], args := [d1, d2, d3, d4] }
  | _ => none }
def FnExactSameBlockWrongFalsely : Prop := fnExactSameBlockRow.holds Try.pinned (OpenSpec.ofChange fnExactSameBlockWrong)

/-- 'laws.FnExactRestrictModel': WHATEVER THE INPUT: true; the input reads as it did. -/
def fnExactRestrictModelSpec : ChangeSpec := { name := "fnExactRestrictModel", fn := fun _ => fun
  | [d1, d2] => { results := [.lit (.bool true)], args := [d1, d2] }
  | _ => none }
def fnExactRestrictModelRow : OpenClaim := { program := "ytdgjlocngmpbfaa", sum := "d9a59001fbe5e9227a7f5de316076648e6e829b5009670da23b93f1a7247c38d", func := "loop.example/g00945/laws.FnExactRestrictModel", spec := "fnExactRestrictModel", apart := false }
def FnExactRestrictModelSaid : Prop := fnExactRestrictModelRow.holds Try.pinned (OpenSpec.ofChange fnExactRestrictModelSpec)

/-- ITS FALSE NEIGHBOUR: 'it returns false'. Refute it at one input. -/
def fnExactRestrictModelWrong : ChangeSpec := { name := "fnExactRestrictModel", fn := fun _ => fun
  | [d1, d2] => { results := [.lit (.bool false)], args := [d1, d2] }
  | _ => none }
def FnExactRestrictModelWrongFalsely : Prop := fnExactRestrictModelRow.holds Try.pinned (OpenSpec.ofChange fnExactRestrictModelWrong)

/-- 'laws.FnExactMoveTo': WHATEVER THE INPUT: true; the input reads as it did. -/
def fnExactMoveToSpec : ChangeSpec := { name := "fnExactMoveTo", fn := fun _ => fun
  | [d1, d2] => { results := [.lit (.bool true)], args := [d1, d2] }
  | _ => none }
def fnExactMoveToRow : OpenClaim := { program := "ytdgjlocngmpbfaa", sum := "d9a59001fbe5e9227a7f5de316076648e6e829b5009670da23b93f1a7247c38d", func := "loop.example/g00945/laws.FnExactMoveTo", spec := "fnExactMoveTo", apart := false }
def FnExactMoveToSaid : Prop := fnExactMoveToRow.holds Try.pinned (OpenSpec.ofChange fnExactMoveToSpec)

/-- ITS FALSE NEIGHBOUR: 'it returns false'. Refute it at one input. -/
def fnExactMoveToWrong : ChangeSpec := { name := "fnExactMoveTo", fn := fun _ => fun
  | [d1, d2] => { results := [.lit (.bool false)], args := [d1, d2] }
  | _ => none }
def FnExactMoveToWrongFalsely : Prop := fnExactMoveToRow.holds Try.pinned (OpenSpec.ofChange fnExactMoveToWrong)

/-- 'laws.FnExactReachedFrom': WHATEVER THE INPUT: true; the input reads as it did. -/
def fnExactReachedFromSpec : ChangeSpec := { name := "fnExactReachedFrom", fn := fun _ => fun
  | [d1, d2] => { results := [.lit (.bool true)], args := [d1, d2] }
  | _ => none }
def fnExactReachedFromRow : OpenClaim := { program := "ytdgjlocngmpbfaa", sum := "d9a59001fbe5e9227a7f5de316076648e6e829b5009670da23b93f1a7247c38d", func := "loop.example/g00945/laws.FnExactReachedFrom", spec := "fnExactReachedFrom", apart := false }
def FnExactReachedFromSaid : Prop := fnExactReachedFromRow.holds Try.pinned (OpenSpec.ofChange fnExactReachedFromSpec)

/-- ITS FALSE NEIGHBOUR: 'it returns false'. Refute it at one input. -/
def fnExactReachedFromWrong : ChangeSpec := { name := "fnExactReachedFrom", fn := fun _ => fun
  | [d1, d2] => { results := [.lit (.bool false)], args := [d1, d2] }
  | _ => none }
def FnExactReachedFromWrongFalsely : Prop := fnExactReachedFromRow.holds Try.pinned (OpenSpec.ofChange fnExactReachedFromWrong)

/-- 'laws.FnExactFreeModel': WHATEVER THE INPUT: true; the input reads as it did. -/
def fnExactFreeModelSpec : ChangeSpec := { name := "fnExactFreeModel", fn := fun _ => fun
  | [d1, d2] => { results := [.lit (.bool true)], args := [d1, d2] }
  | _ => none }
def fnExactFreeModelRow : OpenClaim := { program := "ytdgjlocngmpbfaa", sum := "d9a59001fbe5e9227a7f5de316076648e6e829b5009670da23b93f1a7247c38d", func := "loop.example/g00945/laws.FnExactFreeModel", spec := "fnExactFreeModel", apart := false }
def FnExactFreeModelSaid : Prop := fnExactFreeModelRow.holds Try.pinned (OpenSpec.ofChange fnExactFreeModelSpec)

/-- ITS FALSE NEIGHBOUR: 'it returns false'. Refute it at one input. -/
def fnExactFreeModelWrong : ChangeSpec := { name := "fnExactFreeModel", fn := fun _ => fun
  | [d1, d2] => { results := [.lit (.bool false)], args := [d1, d2] }
  | _ => none }
def FnExactFreeModelWrongFalsely : Prop := fnExactFreeModelRow.holds Try.pinned (OpenSpec.ofChange fnExactFreeModelWrong)

/-- 'laws.FnExactTellFact': WHATEVER THE INPUT: true; the input reads as it did. -/
def fnExactTellFactSpec : ChangeSpec := { name := "fnExactTellFact", fn := fun _ => fun
  | [d1, d2, d3] => { results := [.lit (.bool true)], args := [d1, d2, d3] }
  | _ => none }
def fnExactTellFactRow : OpenClaim := { program := "ytdgjlocngmpbfaa", sum := "d9a59001fbe5e9227a7f5de316076648e6e829b5009670da23b93f1a7247c38d", func := "loop.example/g00945/laws.FnExactTellFact", spec := "fnExactTellFact", apart := false }
def FnExactTellFactSaid : Prop := fnExactTellFactRow.holds Try.pinned (OpenSpec.ofChange fnExactTellFactSpec)

/-- ITS FALSE NEIGHBOUR: 'it returns false'. Refute it at one input. -/
def fnExactTellFactWrong : ChangeSpec := { name := "fnExactTellFact", fn := fun _ => fun
  | [d1, d2, d3] => { results := [.lit (.bool false)], args := [d1, d2, d3] }
  | _ => none }
def FnExactTellFactWrongFalsely : Prop := fnExactTellFactRow.holds Try.pinned (OpenSpec.ofChange fnExactTellFactWrong)

/-- 'laws.FnExactSameModel': WHATEVER THE INPUT: true; the input reads as it did. -/
def fnExactSameModelSpec : ChangeSpec := { name := "fnExactSameModel", fn := fun _ => fun
  | [d1, d2] => { results := [.lit (.bool true)], args := [d1, d2] }
  | _ => none }
def fnExactSameModelRow : OpenClaim := { program := "ytdgjlocngmpbfaa", sum := "d9a59001fbe5e9227a7f5de316076648e6e829b5009670da23b93f1a7247c38d", func := "loop.example/g00945/laws.FnExactSameModel", spec := "fnExactSameModel", unfollowed := true, recurses := true, apart := false }
def FnExactSameModelSaid : Prop := fnExactSameModelRow.holds Try.pinned (OpenSpec.ofChange fnExactSameModelSpec)

/-- ITS FALSE NEIGHBOUR: 'it returns false'. Refute it at one input. -/
def fnExactSameModelWrong : ChangeSpec := { name := "fnExactSameModel", fn := fun _ => fun
  | [d1, d2] => { results := [.lit (.bool false)], args := [d1, d2] }
  | _ => none }
def FnExactSameModelWrongFalsely : Prop := fnExactSameModelRow.holds Try.pinned (OpenSpec.ofChange fnExactSameModelWrong)

/- THE SECOND FORM. 'bulk': how many values and letters a reading holds, each counted each time it is reached (what is shared counts as often as it is met; a slice's spare places count too). A statement '..UptoSaid' is the law's where the arguments, and the package variables that the reading takes, are together of bulk at most 1048576: NARROWER than '..Said'. Prove '..Said' where nothing that the law and all that it calls make is longer than what came in: it says more and counts as full. Else prove '..UptoSaid'. A law counts once. -/
mutual
def uptoBulk {H : Type} : DataW H → Nat
  | .lit (.string bytes) => bytes.length + 1
  | .lit _ => 1
  | .nil => 1
  | .ptr d => uptoBulk d + 1
  | .slice elems spare => uptoBulkAll elems + uptoBulkAll spare + 1
  | .agg parts => uptoBulkAll parts + 1
  | .iface _ d => uptoBulk d + 1
  | .map entries => uptoBulkEntries entries + 1
  | .held _ => 1
def uptoBulkAll {H : Type} : List (DataW H) → Nat
  | [] => 0
  | d :: r => uptoBulk d + uptoBulkAll r
def uptoBulkEntries {H : Type} : List (Lit × DataW H) → Nat
  | [] => 0
  | x :: r => uptoBulkEntry x + uptoBulkEntries r
def uptoBulkEntry {H : Type} : Lit × DataW H → Nat
  | (.string bytes, d) => bytes.length + uptoBulk d + 1
  | (_, d) => uptoBulk d + 1
 end
def uptoSmall : (H : Type) → List (DataW H) → Bool := fun _ ds => decide (uptoBulkAll ds ≤ 1048576)
def OpenSpec.upto (s : _root_.Go.ChangeSpec) : _root_.Go.OpenSpec := { _root_.Go.OpenSpec.ofChange s with cond := some uptoSmall }

/-- 'laws.FnModels', WHERE WHAT IT READS IS OF BULK AT MOST 1048576: true; the input reads as it did. -/
def fnModelsUptoRow : OpenClaim := { program := "ytdgjlocngmpbfaa", sum := "d9a59001fbe5e9227a7f5de316076648e6e829b5009670da23b93f1a7247c38d", func := "loop.example/g00945/laws.FnModels", spec := "fnModels", unfollowed := true, recurses := true, apart := false, narrowed := true }
def FnModelsUptoSaid : Prop := fnModelsUptoRow.holds Try.pinned (OpenSpec.upto fnModelsSpec)

/-- 'laws.FnExactModelOk', WHERE WHAT IT READS IS OF BULK AT MOST 1048576: true; the input reads as it did. -/
def fnExactModelOkUptoRow : OpenClaim := { program := "ytdgjlocngmpbfaa", sum := "d9a59001fbe5e9227a7f5de316076648e6e829b5009670da23b93f1a7247c38d", func := "loop.example/g00945/laws.FnExactModelOk", spec := "fnExactModelOk", apart := false, narrowed := true }
def FnExactModelOkUptoSaid : Prop := fnExactModelOkUptoRow.holds Try.pinned (OpenSpec.upto fnExactModelOkSpec)

/-- 'laws.FnExactCountWorlds', WHERE WHAT IT READS IS OF BULK AT MOST 1048576: true; the input reads as it did. -/
def fnExactCountWorldsUptoRow : OpenClaim := { program := "ytdgjlocngmpbfaa", sum := "d9a59001fbe5e9227a7f5de316076648e6e829b5009670da23b93f1a7247c38d", func := "loop.example/g00945/laws.FnExactCountWorlds", spec := "fnExactCountWorlds", apart := false, narrowed := true }
def FnExactCountWorldsUptoSaid : Prop := fnExactCountWorldsUptoRow.holds Try.pinned (OpenSpec.upto fnExactCountWorldsSpec)

/-- 'laws.FnExactNumberBlocks', WHERE WHAT IT READS IS OF BULK AT MOST 1048576: true; the input reads as it did. -/
def fnExactNumberBlocksUptoRow : OpenClaim := { program := "ytdgjlocngmpbfaa", sum := "d9a59001fbe5e9227a7f5de316076648e6e829b5009670da23b93f1a7247c38d", func := "loop.example/g00945/laws.FnExactNumberBlocks", spec := "fnExactNumberBlocks", apart := false, narrowed := true }
def FnExactNumberBlocksUptoSaid : Prop := fnExactNumberBlocksUptoRow.holds Try.pinned (OpenSpec.upto fnExactNumberBlocksSpec)

/-- 'laws.FnExactSameBlock', WHERE WHAT IT READS IS OF BULK AT MOST 1048576: true; the input reads as it did. -/
def fnExactSameBlockUptoRow : OpenClaim := { program := "ytdgjlocngmpbfaa", sum := "d9a59001fbe5e9227a7f5de316076648e6e829b5009670da23b93f1a7247c38d", func := "loop.example/g00945/laws.FnExactSameBlock", spec := "fnExactSameBlock", apart := false, narrowed := true }
def FnExactSameBlockUptoSaid : Prop := fnExactSameBlockUptoRow.holds Try.pinned (OpenSpec.upto fnExactSameBlockSpec)

/-- 'laws.FnExactRestrictModel', WHERE WHAT IT READS IS OF BULK AT MOST 1048576: true; the input reads as it did. -/
def fnExactRestrictModelUptoRow : OpenClaim := { program := "ytdgjlocngmpbfaa", sum := "d9a59001fbe5e9227a7f5de316076648e6e829b5009670da23b93f1a7247c38d", func := "loop.example/g00945/laws.FnExactRestrictModel", spec := "fnExactRestrictModel", apart := false, narrowed := true }
def FnExactRestrictModelUptoSaid : Prop := fnExactRestrictModelUptoRow.holds Try.pinned (OpenSpec.upto fnExactRestrictModelSpec)

/-- 'laws.FnExactMoveTo', WHERE WHAT IT READS IS OF BULK AT MOST 1048576: true; the input reads as it did. -/
def fnExactMoveToUptoRow : OpenClaim := { program := "ytdgjlocngmpbfaa", sum := "d9a59001fbe5e9227a7f5de316076648e6e829b5009670da23b93f1a7247c38d", func := "loop.example/g00945/laws.FnExactMoveTo", spec := "fnExactMoveTo", apart := false, narrowed := true }
def FnExactMoveToUptoSaid : Prop := fnExactMoveToUptoRow.holds Try.pinned (OpenSpec.upto fnExactMoveToSpec)

/-- 'laws.FnExactReachedFrom', WHERE WHAT IT READS IS OF BULK AT MOST 1048576: true; the input reads as it did. -/
def fnExactReachedFromUptoRow : OpenClaim := { program := "ytdgjlocngmpbfaa", sum := "d9a59001fbe5e9227a7f5de316076648e6e829b5009670da23b93f1a7247c38d", func := "loop.example/g00945/laws.FnExactReachedFrom", spec := "fnExactReachedFrom", apart := false, narrowed := true }
def FnExactReachedFromUptoSaid : Prop := fnExactReachedFromUptoRow.holds Try.pinned (OpenSpec.upto fnExactReachedFromSpec)

/-- 'laws.FnExactFreeModel', WHERE WHAT IT READS IS OF BULK AT MOST 1048576: true; the input reads as it did. -/
def fnExactFreeModelUptoRow : OpenClaim := { program := "ytdgjlocngmpbfaa", sum := "d9a59001fbe5e9227a7f5de316076648e6e829b5009670da23b93f1a7247c38d", func := "loop.example/g00945/laws.FnExactFreeModel", spec := "fnExactFreeModel", apart := false, narrowed := true }
def FnExactFreeModelUptoSaid : Prop := fnExactFreeModelUptoRow.holds Try.pinned (OpenSpec.upto fnExactFreeModelSpec)

/-- 'laws.FnExactTellFact', WHERE WHAT IT READS IS OF BULK AT MOST 1048576: true; the input reads as it did. -/
def fnExactTellFactUptoRow : OpenClaim := { program := "ytdgjlocngmpbfaa", sum := "d9a59001fbe5e9227a7f5de316076648e6e829b5009670da23b93f1a7247c38d", func := "loop.example/g00945/laws.FnExactTellFact", spec := "fnExactTellFact", apart := false, narrowed := true }
def FnExactTellFactUptoSaid : Prop := fnExactTellFactUptoRow.holds Try.pinned (OpenSpec.upto fnExactTellFactSpec)

/-- 'laws.FnExactSameModel', WHERE WHAT IT READS IS OF BULK AT MOST 1048576: true; the input reads as it did. -/
def fnExactSameModelUptoRow : OpenClaim := { program := "ytdgjlocngmpbfaa", sum := "d9a59001fbe5e9227a7f5de316076648e6e829b5009670da23b93f1a7247c38d", func := "loop.example/g00945/laws.FnExactSameModel", spec := "fnExactSameModel", unfollowed := true, recurses := true, apart := false, narrowed := true }
def FnExactSameModelUptoSaid : Prop := fnExactSameModelUptoRow.holds Try.pinned (OpenSpec.upto fnExactSameModelSpec)

end Rows
end Go.Proofs.Ytdgjlocngmpbfaa
