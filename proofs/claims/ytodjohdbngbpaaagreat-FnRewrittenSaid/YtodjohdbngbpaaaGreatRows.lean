/-
  No cell of these rows narrows 'for every input' (looked for: loops, veiled, ifaces, maps, wideKeys, modest, calm, conditions, laid).
  DERIVED. THE GIVEN ROWS OF THIS SEAT. 7 by the template 'for every input the law returns true; each argument reads behind the call as it read before'; 0 by the template 'total and deterministic' (their statements: YtodjohdbngbpaaaGreatTotals.lean).
  GIVEN WITH THE SEED: the statements are not yours to turn. If you find one false, say at which input.
  Laid BY PROGRAM, IN A SANDBOX (cutbox-rows.mjs): the forced cells as the released guide's own fill.sh prints them over the translation edb928272f0bf179… (all of the seat's roots in one cut). By AI agents, Wed Nov 11 2026. No macro, syntax, notation, axiom, sorry.
-/
import Derived.Test.YtodjohdbngbpaaaGreatChecked
import GoSem.Claim
import GoSem.ClaimJoined
import GoSem.ClaimMapViews
import Derived.JoinedTies
import Derived.KernelRfl
namespace Go.Proofs.YtodjohdbngbpaaaGreat
/- THE CELL 'sum', in the pinned program and in every row, IS THE sha256 OF THE DUMP (.gsa) THAT YtodjohdbngbpaaaGreatProg.lean LOADS. Nothing in Lean hashes anything: it is a label: what it is worth is what the hold of that sum in a sandbox is worth. -/
noncomputable def Tryz.pinned : Pinned := { name := "ytodjohdbngbpaaagreat", sum := "edb928272f0bf17991961abd9c727bbca46d9f74d2a9dbc3d578a29f958a0b19", checked := Tryz.checked }
namespace Rows
def none {H : Type} : Left H := { results := [], args := [] }

/-- 'laws.FnKnows': WHATEVER THE INPUT: true; the input reads as it did. -/
def fnKnowsSpec : ChangeSpec := { name := "fnKnows", fn := fun _ => fun
  | [d] => { results := [.lit (.bool true)], args := [d] }
  | _ => none }
def fnKnowsRow : OpenClaim := { program := "ytodjohdbngbpaaagreat", sum := "edb928272f0bf17991961abd9c727bbca46d9f74d2a9dbc3d578a29f958a0b19", func := "loop.example/g00945/laws.FnKnows", spec := "fnKnows", inPlace := ["internal/bytealg.IndexByteString"], unfollowed := true, recurses := true, apart := false }
def FnKnowsSaid : Prop := fnKnowsRow.holds Tryz.pinned (OpenSpec.ofChange fnKnowsSpec)

/-- ITS FALSE NEIGHBOUR: 'it returns false'. Refute it at one input. -/
def fnKnowsWrong : ChangeSpec := { name := "fnKnows", fn := fun _ => fun
  | [d] => { results := [.lit (.bool false)], args := [d] }
  | _ => none }
def FnKnowsWrongFalsely : Prop := fnKnowsRow.holds Tryz.pinned (OpenSpec.ofChange fnKnowsWrong)

/-- 'laws.FnTwice': WHATEVER THE INPUT: true; the input reads as it did. -/
def fnTwiceSpec : ChangeSpec := { name := "fnTwice", fn := fun _ => fun
  | [d] => { results := [.lit (.bool true)], args := [d] }
  | _ => none }
def fnTwiceRow : OpenClaim := { program := "ytodjohdbngbpaaagreat", sum := "edb928272f0bf17991961abd9c727bbca46d9f74d2a9dbc3d578a29f958a0b19", func := "loop.example/g00945/laws.FnTwice", spec := "fnTwice", unfollowed := true, recurses := true, apart := false }
def FnTwiceSaid : Prop := fnTwiceRow.holds Tryz.pinned (OpenSpec.ofChange fnTwiceSpec)

/-- ITS FALSE NEIGHBOUR: 'it returns false'. Refute it at one input. -/
def fnTwiceWrong : ChangeSpec := { name := "fnTwice", fn := fun _ => fun
  | [d] => { results := [.lit (.bool false)], args := [d] }
  | _ => none }
def FnTwiceWrongFalsely : Prop := fnTwiceRow.holds Tryz.pinned (OpenSpec.ofChange fnTwiceWrong)

/-- 'laws.FnRewritten': WHATEVER THE INPUT: true; the input reads as it did. -/
def fnRewrittenSpec : ChangeSpec := { name := "fnRewritten", fn := fun _ => fun
  | [d] => { results := [.lit (.bool true)], args := [d] }
  | _ => none }
def fnRewrittenRow : OpenClaim := { program := "ytodjohdbngbpaaagreat", sum := "edb928272f0bf17991961abd9c727bbca46d9f74d2a9dbc3d578a29f958a0b19", func := "loop.example/g00945/laws.FnRewritten", spec := "fnRewritten", unfollowed := true, recurses := true, apart := false }
def FnRewrittenSaid : Prop := fnRewrittenRow.holds Tryz.pinned (OpenSpec.ofChange fnRewrittenSpec)

/-- ITS FALSE NEIGHBOUR: 'it returns false'. Refute it at one input. -/
def fnRewrittenWrong : ChangeSpec := { name := "fnRewritten", fn := fun _ => fun
  | [d] => { results := [.lit (.bool false)], args := [d] }
  | _ => none }
def FnRewrittenWrongFalsely : Prop := fnRewrittenRow.holds Tryz.pinned (OpenSpec.ofChange fnRewrittenWrong)

/-- 'laws.FnExactAnnounce': WHATEVER THE INPUT: true; the input reads as it did. -/
def fnExactAnnounceSpec : ChangeSpec := { name := "fnExactAnnounce", fn := fun _ => fun
  | [d1, d2] => { results := [.lit (.bool true)], args := [d1, d2] }
  | _ => none }
def fnExactAnnounceRow : OpenClaim := { program := "ytodjohdbngbpaaagreat", sum := "edb928272f0bf17991961abd9c727bbca46d9f74d2a9dbc3d578a29f958a0b19", func := "loop.example/g00945/laws.FnExactAnnounce", spec := "fnExactAnnounce", unfollowed := true, recurses := true, apart := false }
def FnExactAnnounceSaid : Prop := fnExactAnnounceRow.holds Tryz.pinned (OpenSpec.ofChange fnExactAnnounceSpec)

/-- ITS FALSE NEIGHBOUR: 'it returns false'. Refute it at one input. -/
def fnExactAnnounceWrong : ChangeSpec := { name := "fnExactAnnounce", fn := fun _ => fun
  | [d1, d2] => { results := [.lit (.bool false)], args := [d1, d2] }
  | _ => none }
def FnExactAnnounceWrongFalsely : Prop := fnExactAnnounceRow.holds Tryz.pinned (OpenSpec.ofChange fnExactAnnounceWrong)

/-- 'laws.FnExactAnnounceAll': WHATEVER THE INPUT: true; the input reads as it did. -/
def fnExactAnnounceAllSpec : ChangeSpec := { name := "fnExactAnnounceAll", fn := fun _ => fun
  | [d1, d2] => { results := [.lit (.bool true)], args := [d1, d2] }
  | _ => none }
def fnExactAnnounceAllRow : OpenClaim := { program := "ytodjohdbngbpaaagreat", sum := "edb928272f0bf17991961abd9c727bbca46d9f74d2a9dbc3d578a29f958a0b19", func := "loop.example/g00945/laws.FnExactAnnounceAll", spec := "fnExactAnnounceAll", unfollowed := true, recurses := true, apart := false }
def FnExactAnnounceAllSaid : Prop := fnExactAnnounceAllRow.holds Tryz.pinned (OpenSpec.ofChange fnExactAnnounceAllSpec)

/-- ITS FALSE NEIGHBOUR: 'it returns false'. Refute it at one input. -/
def fnExactAnnounceAllWrong : ChangeSpec := { name := "fnExactAnnounceAll", fn := fun _ => fun
  | [d1, d2] => { results := [.lit (.bool false)], args := [d1, d2] }
  | _ => none }
def FnExactAnnounceAllWrongFalsely : Prop := fnExactAnnounceAllRow.holds Tryz.pinned (OpenSpec.ofChange fnExactAnnounceAllWrong)

/-- 'laws.FnExactStaysTrue': WHATEVER THE INPUT: true; the input reads as it did. -/
def fnExactStaysTrueSpec : ChangeSpec := { name := "fnExactStaysTrue", fn := fun _ => fun
  | [d1, d2] => { results := [.lit (.bool true)], args := [d1, d2] }
  | _ => none }
def fnExactStaysTrueRow : OpenClaim := { program := "ytodjohdbngbpaaagreat", sum := "edb928272f0bf17991961abd9c727bbca46d9f74d2a9dbc3d578a29f958a0b19", func := "loop.example/g00945/laws.FnExactStaysTrue", spec := "fnExactStaysTrue", unfollowed := true, recurses := true, apart := false }
def FnExactStaysTrueSaid : Prop := fnExactStaysTrueRow.holds Tryz.pinned (OpenSpec.ofChange fnExactStaysTrueSpec)

/-- ITS FALSE NEIGHBOUR: 'it returns false'. Refute it at one input. -/
def fnExactStaysTrueWrong : ChangeSpec := { name := "fnExactStaysTrue", fn := fun _ => fun
  | [d1, d2] => { results := [.lit (.bool false)], args := [d1, d2] }
  | _ => none }
def FnExactStaysTrueWrongFalsely : Prop := fnExactStaysTrueRow.holds Tryz.pinned (OpenSpec.ofChange fnExactStaysTrueWrong)

/-- 'laws.FnExactMeetsAfter': WHATEVER THE INPUT: true; the input reads as it did. -/
def fnExactMeetsAfterSpec : ChangeSpec := { name := "fnExactMeetsAfter", fn := fun _ => fun
  | [d1, d2, d3] => { results := [.lit (.bool true)], args := [d1, d2, d3] }
  | _ => none }
def fnExactMeetsAfterRow : OpenClaim := { program := "ytodjohdbngbpaaagreat", sum := "edb928272f0bf17991961abd9c727bbca46d9f74d2a9dbc3d578a29f958a0b19", func := "loop.example/g00945/laws.FnExactMeetsAfter", spec := "fnExactMeetsAfter", unfollowed := true, recurses := true, apart := false }
def FnExactMeetsAfterSaid : Prop := fnExactMeetsAfterRow.holds Tryz.pinned (OpenSpec.ofChange fnExactMeetsAfterSpec)

/-- ITS FALSE NEIGHBOUR: 'it returns false'. Refute it at one input. -/
def fnExactMeetsAfterWrong : ChangeSpec := { name := "fnExactMeetsAfter", fn := fun _ => fun
  | [d1, d2, d3] => { results := [.lit (.bool false)], args := [d1, d2, d3] }
  | _ => none }
def FnExactMeetsAfterWrongFalsely : Prop := fnExactMeetsAfterRow.holds Tryz.pinned (OpenSpec.ofChange fnExactMeetsAfterWrong)

/- THE SECOND FORM. 'bulk': how many values and letters a reading holds, each counted each time it is reached (what is shared counts as often as it is met; a slice's spare places count too). A statement '..UptoSaid' is the law's where the arguments, and the package variables that the reading takes, are together of bulk at most 1048576: NARROWER than '..Said'. Prove '..Said' where nothing that the law and all that it calls make is longer than what came in: it says more and counts as full. Else prove '..UptoSaid'. A law counts once. -/
mutual
def uptoBulk {H : Type} : DataW H → Nat
  | .lit (.string bytes) => bytes.length + 1
  | .lit _ => 1
  | .nil => 1
  | .ptr d => uptoBulk d + 1
  | .slice elems spare => uptoBulkAll elems + uptoBulkAll spare + 1
  | .agg parts => uptoBulkAll parts + 1
  | .iface _ d => uptoBulk d + 1
  | .map entries => uptoBulkEntries entries + 1
  | .held _ => 1
def uptoBulkAll {H : Type} : List (DataW H) → Nat
  | [] => 0
  | d :: r => uptoBulk d + uptoBulkAll r
def uptoBulkEntries {H : Type} : List (Lit × DataW H) → Nat
  | [] => 0
  | x :: r => uptoBulkEntry x + uptoBulkEntries r
def uptoBulkEntry {H : Type} : Lit × DataW H → Nat
  | (.string bytes, d) => bytes.length + uptoBulk d + 1
  | (_, d) => uptoBulk d + 1
 end
def uptoSmall : (H : Type) → List (DataW H) → Bool := fun _ ds => decide (uptoBulkAll ds ≤ 1048576)
def OpenSpec.upto (s : _root_.Go.ChangeSpec) : _root_.Go.OpenSpec := { _root_.Go.OpenSpec.ofChange s with cond := some uptoSmall }

/-- 'laws.FnKnows', WHERE WHAT IT READS IS OF BULK AT MOST 1048576: true; the input reads as it did. -/
def fnKnowsUptoRow : OpenClaim := { program := "ytodjohdbngbpaaagreat", sum := "edb928272f0bf17991961abd9c727bbca46d9f74d2a9dbc3d578a29f958a0b19", func := "loop.example/g00945/laws.FnKnows", spec := "fnKnows", inPlace := ["internal/bytealg.IndexByteString"], unfollowed := true, recurses := true, apart := false, narrowed := true }
def FnKnowsUptoSaid : Prop := fnKnowsUptoRow.holds Tryz.pinned (OpenSpec.upto fnKnowsSpec)

/-- 'laws.FnTwice', WHERE WHAT IT READS IS OF BULK AT MOST 1048576: true; the input reads as it did. -/
def fnTwiceUptoRow : OpenClaim := { program := "ytodjohdbngbpaaagreat", sum := "edb928272f0bf17991961abd9c727bbca46d9f74d2a9dbc3d578a29f958a0b19", func := "loop.example/g00945/laws.FnTwice", spec := "fnTwice", unfollowed := true, recurses := true, apart := false, narrowed := true }
def FnTwiceUptoSaid : Prop := fnTwiceUptoRow.holds Tryz.pinned (OpenSpec.upto fnTwiceSpec)

/-- 'laws.FnRewritten', WHERE WHAT IT READS IS OF BULK AT MOST 1048576: true; the input reads as it did. -/
def fnRewrittenUptoRow : OpenClaim := { program := "ytodjohdbngbpaaagreat", sum := "edb928272f0bf17991961abd9c727bbca46d9f74d2a9dbc3d578a29f958a0b19", func := "loop.example/g00945/laws.FnRewritten", spec := "fnRewritten", unfollowed := true, recurses := true, apart := false, narrowed := true }
def FnRewrittenUptoSaid : Prop := fnRewrittenUptoRow.holds Tryz.pinned (OpenSpec.upto fnRewrittenSpec)

/-- 'laws.FnExactAnnounce', WHERE WHAT IT READS IS OF BULK AT MOST 1048576: true; the input reads as it did. -/
def fnExactAnnounceUptoRow : OpenClaim := { program := "ytodjohdbngbpaaagreat", sum := "edb928272f0bf17991961abd9c727bbca46d9f74d2a9dbc3d578a29f958a0b19", func := "loop.example/g00945/laws.FnExactAnnounce", spec := "fnExactAnnounce", unfollowed := true, recurses := true, apart := false, narrowed := true }
def FnExactAnnounceUptoSaid : Prop := fnExactAnnounceUptoRow.holds Tryz.pinned (OpenSpec.upto fnExactAnnounceSpec)

/-- 'laws.FnExactAnnounceAll', WHERE WHAT IT READS IS OF BULK AT MOST 1048576: true; the input reads as it did. -/
def fnExactAnnounceAllUptoRow : OpenClaim := { program := "ytodjohdbngbpaaagreat", sum := "edb928272f0bf17991961abd9c727bbca46d9f74d2a9dbc3d578a29f958a0b19", func := "loop.example/g00945/laws.FnExactAnnounceAll", spec := "fnExactAnnounceAll", unfollowed := true, recurses := true, apart := false, narrowed := true }
def FnExactAnnounceAllUptoSaid : Prop := fnExactAnnounceAllUptoRow.holds Tryz.pinned (OpenSpec.upto fnExactAnnounceAllSpec)

/-- 'laws.FnExactStaysTrue', WHERE WHAT IT READS IS OF BULK AT MOST 1048576: true; the input reads as it did. -/
def fnExactStaysTrueUptoRow : OpenClaim := { program := "ytodjohdbngbpaaagreat", sum := "edb928272f0bf17991961abd9c727bbca46d9f74d2a9dbc3d578a29f958a0b19", func := "loop.example/g00945/laws.FnExactStaysTrue", spec := "fnExactStaysTrue", unfollowed := true, recurses := true, apart := false, narrowed := true }
def FnExactStaysTrueUptoSaid : Prop := fnExactStaysTrueUptoRow.holds Tryz.pinned (OpenSpec.upto fnExactStaysTrueSpec)

/-- 'laws.FnExactMeetsAfter', WHERE WHAT IT READS IS OF BULK AT MOST 1048576: true; the input reads as it did. -/
def fnExactMeetsAfterUptoRow : OpenClaim := { program := "ytodjohdbngbpaaagreat", sum := "edb928272f0bf17991961abd9c727bbca46d9f74d2a9dbc3d578a29f958a0b19", func := "loop.example/g00945/laws.FnExactMeetsAfter", spec := "fnExactMeetsAfter", unfollowed := true, recurses := true, apart := false, narrowed := true }
def FnExactMeetsAfterUptoSaid : Prop := fnExactMeetsAfterUptoRow.holds Tryz.pinned (OpenSpec.upto fnExactMeetsAfterSpec)

end Rows
end Go.Proofs.YtodjohdbngbpaaaGreat
