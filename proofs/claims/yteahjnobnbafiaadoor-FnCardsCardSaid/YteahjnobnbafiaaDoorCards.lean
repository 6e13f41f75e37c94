/-
  DERIVED. GIVEN WITH THE SEED: THE CARDS: each row of YteahjnobnbafiaaDoorRows.lean that lists a variable, with what it lists TIED to the program's text (the seventh form; the later family's looks); each row that meets fmt, with fmt's text TOLD by the authors' own Lean function (tested against real Go, not proved from fmt's source: count such statements apart). THE CARD IS WHAT COUNTS. Prove the row's statement (the work); the ties are given (YteahjnobnbafiaaDoorTie.lean); close each card by the builder's one call (the guide's Derived/Test/ToyasCard.lean, 'card_holds'). Laid BY PROGRAM, IN A SANDBOX (cutbox-door.mjs). By AI agents, Wed Nov 11 2026. No macro, syntax, notation, axiom, sorry.
-/
import Derived.Test.YteahjnobnbafiaaDoorRows
import GoSem.ClaimSeven
namespace Go.Proofs.YteahjnobnbafiaaDoor
namespace Rows

/-- THE TIED CARD OF 'laws.FnExactHandText'. -/
def fnExactHandTextCard : Claim7 := { stood := { row := fnExactHandTextRow, standIns := [], harness := (true, "be3f5c5fcc3e48f90c614b6b311d7781f90d361b744cfe26b51e217484bbb250"), looks := false }, kinds := [], alts := [], laidByText := true, laidKinds := [.data, .data, .data], laidTests := true, laidLooks := .later }
def FnExactHandTextCardSaid : Prop := Claim7.holds Tryd.pinned (.plain (OpenSpec.ofChange fnExactHandTextSpec)) fnExactHandTextCard

/-- THE TIED CARD OF 'laws.FnCards'. -/
def fnCardsCard : Claim7 := { stood := { row := fnCardsRow, standIns := [], harness := (true, "be3f5c5fcc3e48f90c614b6b311d7781f90d361b744cfe26b51e217484bbb250"), looks := false }, kinds := [], alts := [], laidByText := true, laidKinds := [.data, .data, .data], laidTests := true, laidLooks := .later }
def FnCardsCardSaid : Prop := Claim7.holds Tryd.pinned (.plain (OpenSpec.ofChange fnCardsSpec)) fnCardsCard

/-- THE SECOND FORM's CARD OF 'laws.FnExactHandText'. -/
def fnExactHandTextUptoCard : Claim7 := { stood := { row := fnExactHandTextUptoRow, standIns := [], harness := (true, "be3f5c5fcc3e48f90c614b6b311d7781f90d361b744cfe26b51e217484bbb250"), looks := false }, kinds := [], alts := [], laidByText := true, laidKinds := [.data, .data, .data], laidTests := true, laidLooks := .later }
def FnExactHandTextUptoCardSaid : Prop := Claim7.holds Tryd.pinned (.plain (OpenSpec.upto fnExactHandTextSpec)) fnExactHandTextUptoCard

/-- THE SECOND FORM's CARD OF 'laws.FnCards'. -/
def fnCardsUptoCard : Claim7 := { stood := { row := fnCardsUptoRow, standIns := [], harness := (true, "be3f5c5fcc3e48f90c614b6b311d7781f90d361b744cfe26b51e217484bbb250"), looks := false }, kinds := [], alts := [], laidByText := true, laidKinds := [.data, .data, .data], laidTests := true, laidLooks := .later }
def FnCardsUptoCardSaid : Prop := Claim7.holds Tryd.pinned (.plain (OpenSpec.upto fnCardsSpec)) fnCardsUptoCard
end Rows
end Go.Proofs.YteahjnobnbafiaaDoor
