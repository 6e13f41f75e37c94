/-
  No cell of these rows narrows 'for every input' (looked for: loops, veiled, ifaces, maps, wideKeys, modest, calm, conditions, laid).
  DERIVED. THE GIVEN ROWS OF THIS SEAT. 4 by the template 'for every input the law returns true; each argument reads behind the call as it read before'; 0 by the template 'total and deterministic' (their statements: YtodjohdbngbpaaaTotals.lean).
  GIVEN WITH THE SEED: the statements are not yours to turn. If you find one false, say at which input.
  Laid BY PROGRAM, IN A SANDBOX (cutbox-rows.mjs): the forced cells as the released guide's own fill.sh prints them over the translation 9b96b2fad39aa60d… (all of the seat's roots in one cut). By AI agents, Wed Nov 11 2026. No macro, syntax, notation, axiom, sorry.
-/
import Derived.Test.YtodjohdbngbpaaaChecked
import GoSem.Claim
import GoSem.ClaimJoined
import GoSem.ClaimMapViews
import Derived.JoinedTies
import Derived.KernelRfl
namespace Go.Proofs.Ytodjohdbngbpaaa
/- THE CELL 'sum', in the pinned program and in every row, IS THE sha256 OF THE DUMP (.gsa) THAT YtodjohdbngbpaaaProg.lean LOADS. Nothing in Lean hashes anything: it is a label: what it is worth is what the hold of that sum in a sandbox is worth. -/
noncomputable def Try.pinned : Pinned := { name := "ytodjohdbngbpaaa", sum := "9b96b2fad39aa60d971925c0e25706b31ee98e21475e6a14ecf480b34e86e2dd", checked := Try.checked }
namespace Rows
def none {H : Type} : Left H := { results := [], args := [] }

/-- 'laws.FnFree': WHATEVER THE INPUT: true; the input reads as it did. -/
def fnFreeSpec : ChangeSpec := { name := "fnFree", fn := fun _ => fun
  | [d] => { results := [.lit (.bool true)], args := [d] }
  | _ => none }
def fnFreeRow : OpenClaim := { program := "ytodjohdbngbpaaa", sum := "9b96b2fad39aa60d971925c0e25706b31ee98e21475e6a14ecf480b34e86e2dd", func := "loop.example/g00945/laws.FnFree", spec := "fnFree", inPlace := ["internal/bytealg.IndexByteString"], unfollowed := true, recurses := true, plainKeys := false, apart := false }
def FnFreeSaid : Prop := fnFreeRow.holds Try.pinned (OpenSpec.ofChange fnFreeSpec)

/-- ITS FALSE NEIGHBOUR: 'it returns false'. Refute it at one input. -/
def fnFreeWrong : ChangeSpec := { name := "fnFree", fn := fun _ => fun
  | [d] => { results := [.lit (.bool false)], args := [d] }
  | _ => none }
def FnFreeWrongFalsely : Prop := fnFreeRow.holds Try.pinned (OpenSpec.ofChange fnFreeWrong)

/-- 'laws.FnExactIsSilent': WHATEVER THE INPUT: true; the input reads as it did. -/
def fnExactIsSilentSpec : ChangeSpec := { name := "fnExactIsSilent", fn := fun _ => fun
  | [d1, d2] => { results := [.lit (.bool true)], args := [d1, d2] }
  | _ => none }
def fnExactIsSilentRow : OpenClaim := { program := "ytodjohdbngbpaaa", sum := "9b96b2fad39aa60d971925c0e25706b31ee98e21475e6a14ecf480b34e86e2dd", func := "loop.example/g00945/laws.FnExactIsSilent", spec := "fnExactIsSilent", unfollowed := true, recurses := true, plainKeys := false, apart := false }
def FnExactIsSilentSaid : Prop := fnExactIsSilentRow.holds Try.pinned (OpenSpec.ofChange fnExactIsSilentSpec)

/-- ITS FALSE NEIGHBOUR: 'it returns false'. Refute it at one input. -/
def fnExactIsSilentWrong : ChangeSpec := { name := "fnExactIsSilent", fn := fun _ => fun
  | [d1, d2] => { results := [.lit (.bool false)], args := [d1, d2] }
  | _ => none }
def FnExactIsSilentWrongFalsely : Prop := fnExactIsSilentRow.holds Try.pinned (OpenSpec.ofChange fnExactIsSilentWrong)

/-- 'laws.FnExactWorldsLeft': WHATEVER THE INPUT: true; the input reads as it did. -/
def fnExactWorldsLeftSpec : ChangeSpec := { name := "fnExactWorldsLeft", fn := fun _ => fun
  | [d1, d2] => { results := [.lit (.bool true)], args := [d1, d2] }
  | _ => none }
def fnExactWorldsLeftRow : OpenClaim := { program := "ytodjohdbngbpaaa", sum := "9b96b2fad39aa60d971925c0e25706b31ee98e21475e6a14ecf480b34e86e2dd", func := "loop.example/g00945/laws.FnExactWorldsLeft", spec := "fnExactWorldsLeft", unfollowed := true, recurses := true, plainKeys := false, apart := false }
def FnExactWorldsLeftSaid : Prop := fnExactWorldsLeftRow.holds Try.pinned (OpenSpec.ofChange fnExactWorldsLeftSpec)

/-- ITS FALSE NEIGHBOUR: 'it returns false'. Refute it at one input. -/
def fnExactWorldsLeftWrong : ChangeSpec := { name := "fnExactWorldsLeft", fn := fun _ => fun
  | [d1, d2] => { results := [.lit (.bool false)], args := [d1, d2] }
  | _ => none }
def FnExactWorldsLeftWrongFalsely : Prop := fnExactWorldsLeftRow.holds Try.pinned (OpenSpec.ofChange fnExactWorldsLeftWrong)

/-- 'laws.FnExactLeastModel': WHATEVER THE INPUT: true; the input reads as it did. -/
def fnExactLeastModelSpec : ChangeSpec := { name := "fnExactLeastModel", fn := fun _ => fun
  | [d] => { results := [.lit (.bool true)], args := [d] }
  | _ => none }
def fnExactLeastModelRow : OpenClaim := { program := "ytodjohdbngbpaaa", sum := "9b96b2fad39aa60d971925c0e25706b31ee98e21475e6a14ecf480b34e86e2dd", func := "loop.example/g00945/laws.FnExactLeastModel", spec := "fnExactLeastModel", unfollowed := true, recurses := true, plainKeys := false, apart := false }
def FnExactLeastModelSaid : Prop := fnExactLeastModelRow.holds Try.pinned (OpenSpec.ofChange fnExactLeastModelSpec)

/-- ITS FALSE NEIGHBOUR: 'it returns false'. Refute it at one input. -/
def fnExactLeastModelWrong : ChangeSpec := { name := "fnExactLeastModel", fn := fun _ => fun
  | [d] => { results := [.lit (.bool false)], args := [d] }
  | _ => none }
def FnExactLeastModelWrongFalsely : Prop := fnExactLeastModelRow.holds Try.pinned (OpenSpec.ofChange fnExactLeastModelWrong)

/- THE SECOND FORM. 'bulk': how many values and letters a reading holds, each counted each time it is reached (what is shared counts as often as it is met; a slice's spare places count too). A statement '..UptoSaid' is the law's where the arguments, and the package variables that the reading takes, are together of bulk at most 1048576: NARROWER than '..Said'. Prove '..Said' where nothing that the law and all that it calls make is longer than what came in: it says more and counts as full. Else prove '..UptoSaid'. A law counts once. -/
mutual
def uptoBulk {H : Type} : DataW H → Nat
  | .lit (.string bytes) => bytes.length + 1
  | .lit _ => 1
  | .nil => 1
  | .ptr d => uptoBulk d + 1
  | .slice elems spare => uptoBulkAll elems + uptoBulkAll spare + 1
  | .agg parts => uptoBulkAll parts + 1
  | .iface _ d => uptoBulk d + 1
  | .map entries => uptoBulkEntries entries + 1
  | .held _ => 1
def uptoBulkAll {H : Type} : List (DataW H) → Nat
  | [] => 0
  | d :: r => uptoBulk d + uptoBulkAll r
def uptoBulkEntries {H : Type} : List (Lit × DataW H) → Nat
  | [] => 0
  | x :: r => uptoBulkEntry x + uptoBulkEntries r
def uptoBulkEntry {H : Type} : Lit × DataW H → Nat
  | (.string bytes, d) => bytes.length + uptoBulk d + 1
  | (_, d) => uptoBulk d + 1
 end
def uptoSmall : (H : Type) → List (DataW H) → Bool := fun _ ds => decide (uptoBulkAll ds ≤ 1048576)
def OpenSpec.upto (s : _root_.Go.ChangeSpec) : _root_.Go.OpenSpec := { _root_.Go.OpenSpec.ofChange s with cond := some uptoSmall }

/-- 'laws.FnFree', WHERE WHAT IT READS IS OF BULK AT MOST 1048576: true; the input reads as it did. -/
def fnFreeUptoRow : OpenClaim := { program := "ytodjohdbngbpaaa", sum := "9b96b2fad39aa60d971925c0e25706b31ee98e21475e6a14ecf480b34e86e2dd", func := "loop.example/g00945/laws.FnFree", spec := "fnFree", inPlace := ["internal/bytealg.IndexByteString"], unfollowed := true, recurses := true, plainKeys := false, apart := false, narrowed := true }
def FnFreeUptoSaid : Prop := fnFreeUptoRow.holds Try.pinned (OpenSpec.upto fnFreeSpec)

/-- 'laws.FnExactIsSilent', WHERE WHAT IT READS IS OF BULK AT MOST 1048576: true; the input reads as it did. -/
def fnExactIsSilentUptoRow : OpenClaim := { program := "ytodjohdbngbpaaa", sum := "9b96b2fad39aa60d971925c0e25706b31ee98e21475e6a14ecf480b34e86e2dd", func := "loop.example/g00945/laws.FnExactIsSilent", spec := "fnExactIsSilent", unfollowed := true, recurses := true, plainKeys := false, apart := false, narrowed := true }
def FnExactIsSilentUptoSaid : Prop := fnExactIsSilentUptoRow.holds Try.pinned (OpenSpec.upto fnExactIsSilentSpec)

/-- 'laws.FnExactWorldsLeft', WHERE WHAT IT READS IS OF BULK AT MOST 1048576: true; the input reads as it did. -/
def fnExactWorldsLeftUptoRow : OpenClaim := { program := "ytodjohdbngbpaaa", sum := "9b96b2fad39aa60d971925c0e25706b31ee98e21475e6a14ecf480b34e86e2dd", func := "loop.example/g00945/laws.FnExactWorldsLeft", spec := "fnExactWorldsLeft", unfollowed := true, recurses := true, plainKeys := false, apart := false, narrowed := true }
def FnExactWorldsLeftUptoSaid : Prop := fnExactWorldsLeftUptoRow.holds Try.pinned (OpenSpec.upto fnExactWorldsLeftSpec)

/-- 'laws.FnExactLeastModel', WHERE WHAT IT READS IS OF BULK AT MOST 1048576: true; the input reads as it did. -/
def fnExactLeastModelUptoRow : OpenClaim := { program := "ytodjohdbngbpaaa", sum := "9b96b2fad39aa60d971925c0e25706b31ee98e21475e6a14ecf480b34e86e2dd", func := "loop.example/g00945/laws.FnExactLeastModel", spec := "fnExactLeastModel", unfollowed := true, recurses := true, plainKeys := false, apart := false, narrowed := true }
def FnExactLeastModelUptoSaid : Prop := fnExactLeastModelUptoRow.holds Try.pinned (OpenSpec.upto fnExactLeastModelSpec)

end Rows
end Go.Proofs.Ytodjohdbngbpaaa
