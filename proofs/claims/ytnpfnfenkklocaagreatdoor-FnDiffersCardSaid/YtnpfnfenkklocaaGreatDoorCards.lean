/-
  DERIVED. GIVEN WITH THE SEED: THE CARDS: each row of YtnpfnfenkklocaaGreatDoorRows.lean that lists a variable, with what it lists TIED to the program's text (the seventh form; the later family's looks); each row that meets fmt, with fmt's text TOLD by the authors' own Lean function (tested against real Go, not proved from fmt's source: count such statements apart). THE CARD IS WHAT COUNTS. Prove the row's statement (the work); the ties are given (YtnpfnfenkklocaaGreatDoorTie.lean); close each card by the builder's one call (the guide's Derived/Test/ToyasCard.lean, 'card_holds'). Laid BY PROGRAM, IN A SANDBOX (cutbox-door.mjs). By AI agents, Wed Nov 11 2026. No macro, syntax, notation, axiom, sorry.
-/
import Derived.Test.YtnpfnfenkklocaaGreatDoorRows
import GoSem.ClaimSeven
namespace Go.Proofs.YtnpfnfenkklocaaGreatDoor
namespace Rows

/-- THE TIED CARD OF 'laws.FnExactDifferenceOf'. -/
def fnExactDifferenceOfCard : Claim7 := { stood := { row := fnExactDifferenceOfRow, standIns := [], harness := (true, "bb70d7f05984a2e0d824c5dd867c27c50bf22c10840431922bad968d68231dd2"), looks := true }, kinds := [], alts := [], laidByText := true, laidKinds := [.data, .data], laidTests := true, laidLooks := .later }
def FnExactDifferenceOfCardSaid : Prop := Claim7.holds Tryz.pinned (.plain (OpenSpec.ofChange fnExactDifferenceOfSpec)) fnExactDifferenceOfCard

/-- THE TIED CARD OF 'laws.FnDiffers'. -/
def fnDiffersCard : Claim7 := { stood := { row := fnDiffersRow, standIns := [], harness := (true, "bb70d7f05984a2e0d824c5dd867c27c50bf22c10840431922bad968d68231dd2"), looks := true }, kinds := [], alts := [], laidByText := true, laidKinds := [.data, .data], laidTests := true, laidLooks := .later }
def FnDiffersCardSaid : Prop := Claim7.holds Tryz.pinned (.plain (OpenSpec.ofChange fnDiffersSpec)) fnDiffersCard

/-- THE SECOND FORM's CARD OF 'laws.FnExactDifferenceOf'. -/
def fnExactDifferenceOfUptoCard : Claim7 := { stood := { row := fnExactDifferenceOfUptoRow, standIns := [], harness := (true, "bb70d7f05984a2e0d824c5dd867c27c50bf22c10840431922bad968d68231dd2"), looks := true }, kinds := [], alts := [], laidByText := true, laidKinds := [.data, .data], laidTests := true, laidLooks := .later }
def FnExactDifferenceOfUptoCardSaid : Prop := Claim7.holds Tryz.pinned (.plain (OpenSpec.upto fnExactDifferenceOfSpec)) fnExactDifferenceOfUptoCard

/-- THE SECOND FORM's CARD OF 'laws.FnDiffers'. -/
def fnDiffersUptoCard : Claim7 := { stood := { row := fnDiffersUptoRow, standIns := [], harness := (true, "bb70d7f05984a2e0d824c5dd867c27c50bf22c10840431922bad968d68231dd2"), looks := true }, kinds := [], alts := [], laidByText := true, laidKinds := [.data, .data], laidTests := true, laidLooks := .later }
def FnDiffersUptoCardSaid : Prop := Claim7.holds Tryz.pinned (.plain (OpenSpec.upto fnDiffersSpec)) fnDiffersUptoCard
end Rows
end Go.Proofs.YtnpfnfenkklocaaGreatDoor
