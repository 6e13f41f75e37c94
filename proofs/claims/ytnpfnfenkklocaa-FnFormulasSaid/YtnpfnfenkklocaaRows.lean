/-
  No cell of these rows narrows 'for every input' (looked for: loops, veiled, ifaces, maps, wideKeys, modest, calm, conditions, laid).
  DERIVED. THE GIVEN ROWS OF THIS SEAT. 5 by the template 'for every input the law returns true; each argument reads behind the call as it read before'; 0 by the template 'total and deterministic' (their statements: YtnpfnfenkklocaaTotals.lean).
  GIVEN WITH THE SEED: the statements are not yours to turn. If you find one false, say at which input.
  Laid BY PROGRAM, IN A SANDBOX (cutbox-rows.mjs): the forced cells as the released guide's own fill.sh prints them over the translation 2a16a3a6cf853f33… (all of the seat's roots in one cut). By AI agents, Wed Nov 11 2026. No macro, syntax, notation, axiom, sorry.
-/
import Derived.Test.YtnpfnfenkklocaaChecked
import GoSem.Claim
import GoSem.ClaimJoined
import GoSem.ClaimMapViews
import Derived.JoinedTies
import Derived.KernelRfl
namespace Go.Proofs.Ytnpfnfenkklocaa
/- THE CELL 'sum', in the pinned program and in every row, IS THE sha256 OF THE DUMP (.gsa) THAT YtnpfnfenkklocaaProg.lean LOADS. Nothing in Lean hashes anything: it is a label: what it is worth is what the hold of that sum in a sandbox is worth. -/
noncomputable def Try.pinned : Pinned := { name := "ytnpfnfenkklocaa", sum := "2a16a3a6cf853f33c3d4c1bc75e497f2200d28861d51c33bdfc4db1bfc78251a", checked := Try.checked }
namespace Rows
def none {H : Type} : Left H := { results := [], args := [] }

/-- 'laws.FnExactRewrite': WHATEVER THE INPUT: true; the input reads as it did. -/
def fnExactRewriteSpec : ChangeSpec := { name := "fnExactRewrite", fn := fun _ => fun
  | [d] => { results := [.lit (.bool true)], args := [d] }
  | _ => none }
def fnExactRewriteRow : OpenClaim := { program := "ytnpfnfenkklocaa", sum := "2a16a3a6cf853f33c3d4c1bc75e497f2200d28861d51c33bdfc4db1bfc78251a", func := "loop.example/g00945/laws.FnExactRewrite", spec := "fnExactRewrite", unfollowed := true, recurses := true, apart := false }
def FnExactRewriteSaid : Prop := fnExactRewriteRow.holds Try.pinned (OpenSpec.ofChange fnExactRewriteSpec)

/-- ITS FALSE NEIGHBOUR: 'it returns false'. Refute it at one input. -/
def fnExactRewriteWrong : ChangeSpec := { name := "fnExactRewrite", fn := fun _ => fun
  | [d] => { results := [.lit (.bool false)], args := [d] }
  | _ => none }
def FnExactRewriteWrongFalsely : Prop := fnExactRewriteRow.holds Try.pinned (OpenSpec.ofChange fnExactRewriteWrong)

/-- 'laws.FnExactHasAnnouncements': WHATEVER THE INPUT: true; the input reads as it did. -/
def fnExactHasAnnouncementsSpec : ChangeSpec := { name := "fnExactHasAnnouncements", fn := fun _ => fun
  | [d] => { results := [.lit (.bool true)], args := [d] }
  | _ => none }
def fnExactHasAnnouncementsRow : OpenClaim := { program := "ytnpfnfenkklocaa", sum := "2a16a3a6cf853f33c3d4c1bc75e497f2200d28861d51c33bdfc4db1bfc78251a", func := "loop.example/g00945/laws.FnExactHasAnnouncements", spec := "fnExactHasAnnouncements", apart := false }
def FnExactHasAnnouncementsSaid : Prop := fnExactHasAnnouncementsRow.holds Try.pinned (OpenSpec.ofChange fnExactHasAnnouncementsSpec)

/-- ITS FALSE NEIGHBOUR: 'it returns false'. Refute it at one input. -/
def fnExactHasAnnouncementsWrong : ChangeSpec := { name := "fnExactHasAnnouncements", fn := fun _ => fun
  | [d] => { results := [.lit (.bool false)], args := [d] }
  | _ => none }
def FnExactHasAnnouncementsWrongFalsely : Prop := fnExactHasAnnouncementsRow.holds Try.pinned (OpenSpec.ofChange fnExactHasAnnouncementsWrong)

/-- 'laws.FnExactGrowthOf': WHATEVER THE INPUT: true; the input reads as it did. -/
def fnExactGrowthOfSpec : ChangeSpec := { name := "fnExactGrowthOf", fn := fun _ => fun
  | [d] => { results := [.lit (.bool true)], args := [d] }
  | _ => none }
def fnExactGrowthOfRow : OpenClaim := { program := "ytnpfnfenkklocaa", sum := "2a16a3a6cf853f33c3d4c1bc75e497f2200d28861d51c33bdfc4db1bfc78251a", func := "loop.example/g00945/laws.FnExactGrowthOf", spec := "fnExactGrowthOf", unfollowed := true, recurses := true, apart := false }
def FnExactGrowthOfSaid : Prop := fnExactGrowthOfRow.holds Try.pinned (OpenSpec.ofChange fnExactGrowthOfSpec)

/-- ITS FALSE NEIGHBOUR: 'it returns false'. Refute it at one input. -/
def fnExactGrowthOfWrong : ChangeSpec := { name := "fnExactGrowthOf", fn := fun _ => fun
  | [d] => { results := [.lit (.bool false)], args := [d] }
  | _ => none }
def FnExactGrowthOfWrongFalsely : Prop := fnExactGrowthOfRow.holds Try.pinned (OpenSpec.ofChange fnExactGrowthOfWrong)

/-- 'laws.FnExactSimplify': WHATEVER THE INPUT: true; the input reads as it did. -/
def fnExactSimplifySpec : ChangeSpec := { name := "fnExactSimplify", fn := fun _ => fun
  | [d] => { results := [.lit (.bool true)], args := [d] }
  | _ => none }
def fnExactSimplifyRow : OpenClaim := { program := "ytnpfnfenkklocaa", sum := "2a16a3a6cf853f33c3d4c1bc75e497f2200d28861d51c33bdfc4db1bfc78251a", func := "loop.example/g00945/laws.FnExactSimplify", spec := "fnExactSimplify", unfollowed := true, recurses := true, apart := false }
def FnExactSimplifySaid : Prop := fnExactSimplifyRow.holds Try.pinned (OpenSpec.ofChange fnExactSimplifySpec)

/-- ITS FALSE NEIGHBOUR: 'it returns false'. Refute it at one input. -/
def fnExactSimplifyWrong : ChangeSpec := { name := "fnExactSimplify", fn := fun _ => fun
  | [d] => { results := [.lit (.bool false)], args := [d] }
  | _ => none }
def FnExactSimplifyWrongFalsely : Prop := fnExactSimplifyRow.holds Try.pinned (OpenSpec.ofChange fnExactSimplifyWrong)

/-- 'laws.FnFormulas': WHATEVER THE INPUT: true; the input reads as it did. -/
def fnFormulasSpec : ChangeSpec := { name := "fnFormulas", fn := fun _ => fun
  | [d] => { results := [.lit (.bool true)], args := [d] }
  | _ => none }
def fnFormulasRow : OpenClaim := { program := "ytnpfnfenkklocaa", sum := "2a16a3a6cf853f33c3d4c1bc75e497f2200d28861d51c33bdfc4db1bfc78251a", func := "loop.example/g00945/laws.FnFormulas", spec := "fnFormulas", unfollowed := true, recurses := true, apart := false }
def FnFormulasSaid : Prop := fnFormulasRow.holds Try.pinned (OpenSpec.ofChange fnFormulasSpec)

/-- ITS FALSE NEIGHBOUR: 'it returns false'. Refute it at one input. -/
def fnFormulasWrong : ChangeSpec := { name := "fnFormulas", fn := fun _ => fun
  | [d] => { results := [.lit (.bool false)], args := [d] }
  | _ => none }
def FnFormulasWrongFalsely : Prop := fnFormulasRow.holds Try.pinned (OpenSpec.ofChange fnFormulasWrong)

/- THE SECOND FORM. 'bulk': how many values and letters a reading holds, each counted each time it is reached (what is shared counts as often as it is met; a slice's spare places count too). A statement '..UptoSaid' is the law's where the arguments, and the package variables that the reading takes, are together of bulk at most 1048576: NARROWER than '..Said'. Prove '..Said' where nothing that the law and all that it calls make is longer than what came in: it says more and counts as full. Else prove '..UptoSaid'. A law counts once. -/
mutual
def uptoBulk {H : Type} : DataW H → Nat
  | .lit (.string bytes) => bytes.length + 1
  | .lit _ => 1
  | .nil => 1
  | .ptr d => uptoBulk d + 1
  | .slice elems spare => uptoBulkAll elems + uptoBulkAll spare + 1
  | .agg parts => uptoBulkAll parts + 1
  | .iface _ d => uptoBulk d + 1
  | .map entries => uptoBulkEntries entries + 1
  | .held _ => 1
def uptoBulkAll {H : Type} : List (DataW H) → Nat
  | [] => 0
  | d :: r => uptoBulk d + uptoBulkAll r
def uptoBulkEntries {H : Type} : List (Lit × DataW H) → Nat
  | [] => 0
  | x :: r => uptoBulkEntry x + uptoBulkEntries r
def uptoBulkEntry {H : Type} : Lit × DataW H → Nat
  | (.string bytes, d) => bytes.length + uptoBulk d + 1
  | (_, d) => uptoBulk d + 1
 end
def uptoSmall : (H : Type) → List (DataW H) → Bool := fun _ ds => decide (uptoBulkAll ds ≤ 1048576)
def OpenSpec.upto (s : _root_.Go.ChangeSpec) : _root_.Go.OpenSpec := { _root_.Go.OpenSpec.ofChange s with cond := some uptoSmall }

/-- 'laws.FnExactRewrite', WHERE WHAT IT READS IS OF BULK AT MOST 1048576: true; the input reads as it did. -/
def fnExactRewriteUptoRow : OpenClaim := { program := "ytnpfnfenkklocaa", sum := "2a16a3a6cf853f33c3d4c1bc75e497f2200d28861d51c33bdfc4db1bfc78251a", func := "loop.example/g00945/laws.FnExactRewrite", spec := "fnExactRewrite", unfollowed := true, recurses := true, apart := false, narrowed := true }
def FnExactRewriteUptoSaid : Prop := fnExactRewriteUptoRow.holds Try.pinned (OpenSpec.upto fnExactRewriteSpec)

/-- 'laws.FnExactHasAnnouncements', WHERE WHAT IT READS IS OF BULK AT MOST 1048576: true; the input reads as it did. -/
def fnExactHasAnnouncementsUptoRow : OpenClaim := { program := "ytnpfnfenkklocaa", sum := "2a16a3a6cf853f33c3d4c1bc75e497f2200d28861d51c33bdfc4db1bfc78251a", func := "loop.example/g00945/laws.FnExactHasAnnouncements", spec := "fnExactHasAnnouncements", apart := false, narrowed := true }
def FnExactHasAnnouncementsUptoSaid : Prop := fnExactHasAnnouncementsUptoRow.holds Try.pinned (OpenSpec.upto fnExactHasAnnouncementsSpec)

/-- 'laws.FnExactGrowthOf', WHERE WHAT IT READS IS OF BULK AT MOST 1048576: true; the input reads as it did. -/
def fnExactGrowthOfUptoRow : OpenClaim := { program := "ytnpfnfenkklocaa", sum := "2a16a3a6cf853f33c3d4c1bc75e497f2200d28861d51c33bdfc4db1bfc78251a", func := "loop.example/g00945/laws.FnExactGrowthOf", spec := "fnExactGrowthOf", unfollowed := true, recurses := true, apart := false, narrowed := true }
def FnExactGrowthOfUptoSaid : Prop := fnExactGrowthOfUptoRow.holds Try.pinned (OpenSpec.upto fnExactGrowthOfSpec)

/-- 'laws.FnExactSimplify', WHERE WHAT IT READS IS OF BULK AT MOST 1048576: true; the input reads as it did. -/
def fnExactSimplifyUptoRow : OpenClaim := { program := "ytnpfnfenkklocaa", sum := "2a16a3a6cf853f33c3d4c1bc75e497f2200d28861d51c33bdfc4db1bfc78251a", func := "loop.example/g00945/laws.FnExactSimplify", spec := "fnExactSimplify", unfollowed := true, recurses := true, apart := false, narrowed := true }
def FnExactSimplifyUptoSaid : Prop := fnExactSimplifyUptoRow.holds Try.pinned (OpenSpec.upto fnExactSimplifySpec)

/-- 'laws.FnFormulas', WHERE WHAT IT READS IS OF BULK AT MOST 1048576: true; the input reads as it did. -/
def fnFormulasUptoRow : OpenClaim := { program := "ytnpfnfenkklocaa", sum := "2a16a3a6cf853f33c3d4c1bc75e497f2200d28861d51c33bdfc4db1bfc78251a", func := "loop.example/g00945/laws.FnFormulas", spec := "fnFormulas", unfollowed := true, recurses := true, apart := false, narrowed := true }
def FnFormulasUptoSaid : Prop := fnFormulasUptoRow.holds Try.pinned (OpenSpec.upto fnFormulasSpec)

end Rows
end Go.Proofs.Ytnpfnfenkklocaa
