/-
  No cell of these rows narrows 'for every input' (looked for: loops, veiled, ifaces, maps, wideKeys, modest, calm, conditions, laid).
  DERIVED. THE GIVEN ROWS OF THIS SEAT. 8 by the template 'for every input the law returns true; each argument reads behind the call as it read before'; 0 by the template 'total and deterministic' (their statements: YteahjnobnbafiaaTotals.lean).
  GIVEN WITH THE SEED: the statements are not yours to turn. If you find one false, say at which input.
  Laid BY PROGRAM, IN A SANDBOX (cutbox-rows.mjs): the forced cells as the released guide's own fill.sh prints them over the translation c03b85ecc2fb3a9e… (all of the seat's roots in one cut). By AI agents, Wed Nov 11 2026. No macro, syntax, notation, axiom, sorry.
-/
import Derived.Test.YteahjnobnbafiaaChecked
import GoSem.Claim
import GoSem.ClaimJoined
import GoSem.ClaimMapViews
import Derived.JoinedTies
import Derived.KernelRfl
namespace Go.Proofs.Yteahjnobnbafiaa
/- THE CELL 'sum', in the pinned program and in every row, IS THE sha256 OF THE DUMP (.gsa) THAT YteahjnobnbafiaaProg.lean LOADS. Nothing in Lean hashes anything: it is a label: what it is worth is what the hold of that sum in a sandbox is worth. -/
noncomputable def Try.pinned : Pinned := { name := "yteahjnobnbafiaa", sum := "c03b85ecc2fb3a9e03dbd8980753f5c9f724edcb9bae7f89410c495ec684f2cc", checked := Try.checked }
namespace Rows
def none {H : Type} : Left H := { results := [], args := [] }

/-- 'laws.FnExactDealOk': WHATEVER THE INPUT: true; the input reads as it did. -/
def fnExactDealOkSpec : ChangeSpec := { name := "fnExactDealOk", fn := fun _ => fun
  | [d] => { results := [.lit (.bool true)], args := [d] }
  | _ => none }
def fnExactDealOkRow : OpenClaim := { program := "yteahjnobnbafiaa", sum := "c03b85ecc2fb3a9e03dbd8980753f5c9f724edcb9bae7f89410c495ec684f2cc", func := "loop.example/g00945/laws.FnExactDealOk", spec := "fnExactDealOk", apart := false }
def FnExactDealOkSaid : Prop := fnExactDealOkRow.holds Try.pinned (OpenSpec.ofChange fnExactDealOkSpec)

/-- ITS FALSE NEIGHBOUR: 'it returns false'. Refute it at one input. -/
def fnExactDealOkWrong : ChangeSpec := { name := "fnExactDealOk", fn := fun _ => fun
  | [d] => { results := [.lit (.bool false)], args := [d] }
  | _ => none }
def FnExactDealOkWrongFalsely : Prop := fnExactDealOkRow.holds Try.pinned (OpenSpec.ofChange fnExactDealOkWrong)

/-- 'laws.FnExactHandsOf': WHATEVER THE INPUT: true; the input reads as it did. -/
def fnExactHandsOfSpec : ChangeSpec := { name := "fnExactHandsOf", fn := fun _ => fun
  | [d] => { results := [.lit (.bool true)], args := [d] }
  | _ => none }
def fnExactHandsOfRow : OpenClaim := { program := "yteahjnobnbafiaa", sum := "c03b85ecc2fb3a9e03dbd8980753f5c9f724edcb9bae7f89410c495ec684f2cc", func := "loop.example/g00945/laws.FnExactHandsOf", spec := "fnExactHandsOf", apart := false }
def FnExactHandsOfSaid : Prop := fnExactHandsOfRow.holds Try.pinned (OpenSpec.ofChange fnExactHandsOfSpec)

/-- ITS FALSE NEIGHBOUR: 'it returns false'. Refute it at one input. -/
def fnExactHandsOfWrong : ChangeSpec := { name := "fnExactHandsOf", fn := fun _ => fun
  | [d] => { results := [.lit (.bool false)], args := [d] }
  | _ => none }
def FnExactHandsOfWrongFalsely : Prop := fnExactHandsOfRow.holds Try.pinned (OpenSpec.ofChange fnExactHandsOfWrong)

/-- 'laws.FnExactAnnouncementOk': WHATEVER THE INPUT: true; the input reads as it did. -/
def fnExactAnnouncementOkSpec : ChangeSpec := { name := "fnExactAnnouncementOk", fn := fun _ => fun
  | [d1, d2] => { results := [.lit (.bool true)], args := [d1, d2] }
  | _ => none }
def fnExactAnnouncementOkRow : OpenClaim := { program := "yteahjnobnbafiaa", sum := "c03b85ecc2fb3a9e03dbd8980753f5c9f724edcb9bae7f89410c495ec684f2cc", func := "loop.example/g00945/laws.FnExactAnnouncementOk", spec := "fnExactAnnouncementOk", apart := false }
def FnExactAnnouncementOkSaid : Prop := fnExactAnnouncementOkRow.holds Try.pinned (OpenSpec.ofChange fnExactAnnouncementOkSpec)

/-- ITS FALSE NEIGHBOUR: 'it returns false'. Refute it at one input. -/
def fnExactAnnouncementOkWrong : ChangeSpec := { name := "fnExactAnnouncementOk", fn := fun _ => fun
  | [d1, d2] => { results := [.lit (.bool false)], args := [d1, d2] }
  | _ => none }
def FnExactAnnouncementOkWrongFalsely : Prop := fnExactAnnouncementOkRow.holds Try.pinned (OpenSpec.ofChange fnExactAnnouncementOkWrong)

/-- 'laws.FnExactTellsSecond': WHATEVER THE INPUT: true; the input reads as it did. -/
def fnExactTellsSecondSpec : ChangeSpec := { name := "fnExactTellsSecond", fn := fun _ => fun
  | [d1, d2] => { results := [.lit (.bool true)], args := [d1, d2] }
  | _ => none }
def fnExactTellsSecondRow : OpenClaim := { program := "yteahjnobnbafiaa", sum := "c03b85ecc2fb3a9e03dbd8980753f5c9f724edcb9bae7f89410c495ec684f2cc", func := "loop.example/g00945/laws.FnExactTellsSecond", spec := "fnExactTellsSecond", unfollowed := true, recurses := true, apart := false }
def FnExactTellsSecondSaid : Prop := fnExactTellsSecondRow.holds Try.pinned (OpenSpec.ofChange fnExactTellsSecondSpec)

/-- ITS FALSE NEIGHBOUR: 'it returns false'. Refute it at one input. -/
def fnExactTellsSecondWrong : ChangeSpec := { name := "fnExactTellsSecond", fn := fun _ => fun
  | [d1, d2] => { results := [.lit (.bool false)], args := [d1, d2] }
  | _ => none }
def FnExactTellsSecondWrongFalsely : Prop := fnExactTellsSecondRow.holds Try.pinned (OpenSpec.ofChange fnExactTellsSecondWrong)

/-- 'laws.FnExactHidesAll': WHATEVER THE INPUT: true; the input reads as it did. -/
def fnExactHidesAllSpec : ChangeSpec := { name := "fnExactHidesAll", fn := fun _ => fun
  | [d1, d2] => { results := [.lit (.bool true)], args := [d1, d2] }
  | _ => none }
def fnExactHidesAllRow : OpenClaim := { program := "yteahjnobnbafiaa", sum := "c03b85ecc2fb3a9e03dbd8980753f5c9f724edcb9bae7f89410c495ec684f2cc", func := "loop.example/g00945/laws.FnExactHidesAll", spec := "fnExactHidesAll", apart := false }
def FnExactHidesAllSaid : Prop := fnExactHidesAllRow.holds Try.pinned (OpenSpec.ofChange fnExactHidesAllSpec)

/-- ITS FALSE NEIGHBOUR: 'it returns false'. Refute it at one input. -/
def fnExactHidesAllWrong : ChangeSpec := { name := "fnExactHidesAll", fn := fun _ => fun
  | [d1, d2] => { results := [.lit (.bool false)], args := [d1, d2] }
  | _ => none }
def FnExactHidesAllWrongFalsely : Prop := fnExactHidesAllRow.holds Try.pinned (OpenSpec.ofChange fnExactHidesAllWrong)

/-- 'laws.FnExactIsSafe': WHATEVER THE INPUT: true; the input reads as it did. -/
def fnExactIsSafeSpec : ChangeSpec := { name := "fnExactIsSafe", fn := fun _ => fun
  | [d1, d2] => { results := [.lit (.bool true)], args := [d1, d2] }
  | _ => none }
def fnExactIsSafeRow : OpenClaim := { program := "yteahjnobnbafiaa", sum := "c03b85ecc2fb3a9e03dbd8980753f5c9f724edcb9bae7f89410c495ec684f2cc", func := "loop.example/g00945/laws.FnExactIsSafe", spec := "fnExactIsSafe", unfollowed := true, recurses := true, apart := false }
def FnExactIsSafeSaid : Prop := fnExactIsSafeRow.holds Try.pinned (OpenSpec.ofChange fnExactIsSafeSpec)

/-- ITS FALSE NEIGHBOUR: 'it returns false'. Refute it at one input. -/
def fnExactIsSafeWrong : ChangeSpec := { name := "fnExactIsSafe", fn := fun _ => fun
  | [d1, d2] => { results := [.lit (.bool false)], args := [d1, d2] }
  | _ => none }
def FnExactIsSafeWrongFalsely : Prop := fnExactIsSafeRow.holds Try.pinned (OpenSpec.ofChange fnExactIsSafeWrong)

/-- 'laws.FnExactFirstSafe': WHATEVER THE INPUT: true; the input reads as it did. -/
def fnExactFirstSafeSpec : ChangeSpec := { name := "fnExactFirstSafe", fn := fun _ => fun
  | [d1, d2, d3] => { results := [.lit (.bool true)], args := [d1, d2, d3] }
  | _ => none }
def fnExactFirstSafeRow : OpenClaim := { program := "yteahjnobnbafiaa", sum := "c03b85ecc2fb3a9e03dbd8980753f5c9f724edcb9bae7f89410c495ec684f2cc", func := "loop.example/g00945/laws.FnExactFirstSafe", spec := "fnExactFirstSafe", unfollowed := true, recurses := true, apart := false }
def FnExactFirstSafeSaid : Prop := fnExactFirstSafeRow.holds Try.pinned (OpenSpec.ofChange fnExactFirstSafeSpec)

/-- ITS FALSE NEIGHBOUR: 'it returns false'. Refute it at one input. -/
def fnExactFirstSafeWrong : ChangeSpec := { name := "fnExactFirstSafe", fn := fun _ => fun
  | [d1, d2, d3] => { results := [.lit (.bool false)], args := [d1, d2, d3] }
  | _ => none }
def FnExactFirstSafeWrongFalsely : Prop := fnExactFirstSafeRow.holds Try.pinned (OpenSpec.ofChange fnExactFirstSafeWrong)

/-- 'laws.FnSafe': WHATEVER THE INPUT: true; the input reads as it did. -/
def fnSafeSpec : ChangeSpec := { name := "fnSafe", fn := fun _ => fun
  | [d] => { results := [.lit (.bool true)], args := [d] }
  | _ => none }
def fnSafeRow : OpenClaim := { program := "yteahjnobnbafiaa", sum := "c03b85ecc2fb3a9e03dbd8980753f5c9f724edcb9bae7f89410c495ec684f2cc", func := "loop.example/g00945/laws.FnSafe", spec := "fnSafe", unfollowed := true, recurses := true, apart := false }
def FnSafeSaid : Prop := fnSafeRow.holds Try.pinned (OpenSpec.ofChange fnSafeSpec)

/-- ITS FALSE NEIGHBOUR: 'it returns false'. Refute it at one input. -/
def fnSafeWrong : ChangeSpec := { name := "fnSafe", fn := fun _ => fun
  | [d] => { results := [.lit (.bool false)], args := [d] }
  | _ => none }
def FnSafeWrongFalsely : Prop := fnSafeRow.holds Try.pinned (OpenSpec.ofChange fnSafeWrong)

/- THE SECOND FORM. 'bulk': how many values and letters a reading holds, each counted each time it is reached (what is shared counts as often as it is met; a slice's spare places count too). A statement '..UptoSaid' is the law's where the arguments, and the package variables that the reading takes, are together of bulk at most 1048576: NARROWER than '..Said'. Prove '..Said' where nothing that the law and all that it calls make is longer than what came in: it says more and counts as full. Else prove '..UptoSaid'. A law counts once. -/
mutual
def uptoBulk {H : Type} : DataW H → Nat
  | .lit (.string bytes) => bytes.length + 1
  | .lit _ => 1
  | .nil => 1
  | .ptr d => uptoBulk d + 1
  | .slice elems spare => uptoBulkAll elems + uptoBulkAll spare + 1
  | .agg parts => uptoBulkAll parts + 1
  | .iface _ d => uptoBulk d + 1
  | .map entries => uptoBulkEntries entries + 1
  | .held _ => 1
def uptoBulkAll {H : Type} : List (DataW H) → Nat
  | [] => 0
  | d :: r => uptoBulk d + uptoBulkAll r
def uptoBulkEntries {H : Type} : List (Lit × DataW H) → Nat
  | [] => 0
  | x :: r => uptoBulkEntry x + uptoBulkEntries r
def uptoBulkEntry {H : Type} : Lit × DataW H → Nat
  | (.string bytes, d) => bytes.length + uptoBulk d + 1
  | (_, d) => uptoBulk d + 1
 end
def uptoSmall : (H : Type) → List (DataW H) → Bool := fun _ ds => decide (uptoBulkAll ds ≤ 1048576)
def OpenSpec.upto (s : _root_.Go.ChangeSpec) : _root_.Go.OpenSpec := { _root_.Go.OpenSpec.ofChange s with cond := some uptoSmall }

/-- 'laws.FnExactDealOk', WHERE WHAT IT READS IS OF BULK AT MOST 1048576: true; the input reads as it did. -/
def fnExactDealOkUptoRow : OpenClaim := { program := "yteahjnobnbafiaa", sum := "c03b85ecc2fb3a9e03dbd8980753f5c9f724edcb9bae7f89410c495ec684f2cc", func := "loop.example/g00945/laws.FnExactDealOk", spec := "fnExactDealOk", apart := false, narrowed := true }
def FnExactDealOkUptoSaid : Prop := fnExactDealOkUptoRow.holds Try.pinned (OpenSpec.upto fnExactDealOkSpec)

/-- 'laws.FnExactHandsOf', WHERE WHAT IT READS IS OF BULK AT MOST 1048576: true; the input reads as it did. -/
def fnExactHandsOfUptoRow : OpenClaim := { program := "yteahjnobnbafiaa", sum := "c03b85ecc2fb3a9e03dbd8980753f5c9f724edcb9bae7f89410c495ec684f2cc", func := "loop.example/g00945/laws.FnExactHandsOf", spec := "fnExactHandsOf", apart := false, narrowed := true }
def FnExactHandsOfUptoSaid : Prop := fnExactHandsOfUptoRow.holds Try.pinned (OpenSpec.upto fnExactHandsOfSpec)

/-- 'laws.FnExactAnnouncementOk', WHERE WHAT IT READS IS OF BULK AT MOST 1048576: true; the input reads as it did. -/
def fnExactAnnouncementOkUptoRow : OpenClaim := { program := "yteahjnobnbafiaa", sum := "c03b85ecc2fb3a9e03dbd8980753f5c9f724edcb9bae7f89410c495ec684f2cc", func := "loop.example/g00945/laws.FnExactAnnouncementOk", spec := "fnExactAnnouncementOk", apart := false, narrowed := true }
def FnExactAnnouncementOkUptoSaid : Prop := fnExactAnnouncementOkUptoRow.holds Try.pinned (OpenSpec.upto fnExactAnnouncementOkSpec)

/-- 'laws.FnExactTellsSecond', WHERE WHAT IT READS IS OF BULK AT MOST 1048576: true; the input reads as it did. -/
def fnExactTellsSecondUptoRow : OpenClaim := { program := "yteahjnobnbafiaa", sum := "c03b85ecc2fb3a9e03dbd8980753f5c9f724edcb9bae7f89410c495ec684f2cc", func := "loop.example/g00945/laws.FnExactTellsSecond", spec := "fnExactTellsSecond", unfollowed := true, recurses := true, apart := false, narrowed := true }
def FnExactTellsSecondUptoSaid : Prop := fnExactTellsSecondUptoRow.holds Try.pinned (OpenSpec.upto fnExactTellsSecondSpec)

/-- 'laws.FnExactHidesAll', WHERE WHAT IT READS IS OF BULK AT MOST 1048576: true; the input reads as it did. -/
def fnExactHidesAllUptoRow : OpenClaim := { program := "yteahjnobnbafiaa", sum := "c03b85ecc2fb3a9e03dbd8980753f5c9f724edcb9bae7f89410c495ec684f2cc", func := "loop.example/g00945/laws.FnExactHidesAll", spec := "fnExactHidesAll", apart := false, narrowed := true }
def FnExactHidesAllUptoSaid : Prop := fnExactHidesAllUptoRow.holds Try.pinned (OpenSpec.upto fnExactHidesAllSpec)

/-- 'laws.FnExactIsSafe', WHERE WHAT IT READS IS OF BULK AT MOST 1048576: true; the input reads as it did. -/
def fnExactIsSafeUptoRow : OpenClaim := { program := "yteahjnobnbafiaa", sum := "c03b85ecc2fb3a9e03dbd8980753f5c9f724edcb9bae7f89410c495ec684f2cc", func := "loop.example/g00945/laws.FnExactIsSafe", spec := "fnExactIsSafe", unfollowed := true, recurses := true, apart := false, narrowed := true }
def FnExactIsSafeUptoSaid : Prop := fnExactIsSafeUptoRow.holds Try.pinned (OpenSpec.upto fnExactIsSafeSpec)

/-- 'laws.FnExactFirstSafe', WHERE WHAT IT READS IS OF BULK AT MOST 1048576: true; the input reads as it did. -/
def fnExactFirstSafeUptoRow : OpenClaim := { program := "yteahjnobnbafiaa", sum := "c03b85ecc2fb3a9e03dbd8980753f5c9f724edcb9bae7f89410c495ec684f2cc", func := "loop.example/g00945/laws.FnExactFirstSafe", spec := "fnExactFirstSafe", unfollowed := true, recurses := true, apart := false, narrowed := true }
def FnExactFirstSafeUptoSaid : Prop := fnExactFirstSafeUptoRow.holds Try.pinned (OpenSpec.upto fnExactFirstSafeSpec)

/-- 'laws.FnSafe', WHERE WHAT IT READS IS OF BULK AT MOST 1048576: true; the input reads as it did. -/
def fnSafeUptoRow : OpenClaim := { program := "yteahjnobnbafiaa", sum := "c03b85ecc2fb3a9e03dbd8980753f5c9f724edcb9bae7f89410c495ec684f2cc", func := "loop.example/g00945/laws.FnSafe", spec := "fnSafe", unfollowed := true, recurses := true, apart := false, narrowed := true }
def FnSafeUptoSaid : Prop := fnSafeUptoRow.holds Try.pinned (OpenSpec.upto fnSafeSpec)

end Rows
end Go.Proofs.Yteahjnobnbafiaa
