/-
  DERIVED. GIVEN WITH THE SEED: THE CARDS: each row of YteocjggepjpecaaGreatDoorRows.lean that lists a variable, with what it lists TIED to the program's text (the seventh form; the later family's looks); each row that meets fmt, with fmt's text TOLD by the authors' own Lean function (tested against real Go, not proved from fmt's source: count such statements apart). THE CARD IS WHAT COUNTS. Prove the row's statement (the work); the ties are given (YteocjggepjpecaaGreatDoorTie.lean); close each card by the builder's one call (the guide's Derived/Test/ToyasCard.lean, 'card_holds'). Laid BY PROGRAM, IN A SANDBOX (cutbox-door.mjs). By AI agents, Wed Nov 11 2026. No macro, syntax, notation, axiom, sorry.
-/
import Derived.Test.YteocjggepjpecaaGreatDoorRows
import GoSem.ClaimSeven
namespace Go.Proofs.YteocjggepjpecaaGreatDoor
namespace Rows

/-- THE TIED CARD OF 'huerlaw02.TurnOwners'. -/
def turnOwnersCard : Claim7 := { stood := { row := turnOwnersRow, standIns := [], harness := (true, "5fda4eb7220b89a9958092a04983f26bcd6f08a364a61669f61275a396015d98"), looks := false }, kinds := [], alts := [], laidByText := true, laidKinds := [.data], laidTests := true, laidLooks := .later }
def TurnOwnersCardSaid : Prop := Claim7.holds Tryz.pinned (.plain (OpenSpec.ofChange turnOwnersSpec)) turnOwnersCard

/-- THE TIED CARD OF 'huerlaw02.TurnFairs'. -/
def turnFairsCard : Claim7 := { stood := { row := turnFairsRow, standIns := [], harness := (true, "5fda4eb7220b89a9958092a04983f26bcd6f08a364a61669f61275a396015d98"), looks := false }, kinds := [], alts := [], laidByText := true, laidKinds := [.data], laidTests := true, laidLooks := .later }
def TurnFairsCardSaid : Prop := Claim7.holds Tryz.pinned (.plain (OpenSpec.ofChange turnFairsSpec)) turnFairsCard

/-- THE TIED CARD OF 'huerlaw02.TurnWrongs'. -/
def turnWrongsCard : Claim7 := { stood := { row := turnWrongsRow, standIns := [], harness := (true, "5fda4eb7220b89a9958092a04983f26bcd6f08a364a61669f61275a396015d98"), looks := false }, kinds := [], alts := [], laidByText := true, laidKinds := [.data], laidTests := true, laidLooks := .later }
def TurnWrongsCardSaid : Prop := Claim7.holds Tryz.pinned (.plain (OpenSpec.ofChange turnWrongsSpec)) turnWrongsCard

/-- THE SECOND FORM's CARD OF 'huerlaw02.TurnOwners'. -/
def turnOwnersUptoCard : Claim7 := { stood := { row := turnOwnersUptoRow, standIns := [], harness := (true, "5fda4eb7220b89a9958092a04983f26bcd6f08a364a61669f61275a396015d98"), looks := false }, kinds := [], alts := [], laidByText := true, laidKinds := [.data], laidTests := true, laidLooks := .later }
def TurnOwnersUptoCardSaid : Prop := Claim7.holds Tryz.pinned (.plain (OpenSpec.upto turnOwnersSpec)) turnOwnersUptoCard

/-- THE SECOND FORM's CARD OF 'huerlaw02.TurnFairs'. -/
def turnFairsUptoCard : Claim7 := { stood := { row := turnFairsUptoRow, standIns := [], harness := (true, "5fda4eb7220b89a9958092a04983f26bcd6f08a364a61669f61275a396015d98"), looks := false }, kinds := [], alts := [], laidByText := true, laidKinds := [.data], laidTests := true, laidLooks := .later }
def TurnFairsUptoCardSaid : Prop := Claim7.holds Tryz.pinned (.plain (OpenSpec.upto turnFairsSpec)) turnFairsUptoCard

/-- THE SECOND FORM's CARD OF 'huerlaw02.TurnWrongs'. -/
def turnWrongsUptoCard : Claim7 := { stood := { row := turnWrongsUptoRow, standIns := [], harness := (true, "5fda4eb7220b89a9958092a04983f26bcd6f08a364a61669f61275a396015d98"), looks := false }, kinds := [], alts := [], laidByText := true, laidKinds := [.data], laidTests := true, laidLooks := .later }
def TurnWrongsUptoCardSaid : Prop := Claim7.holds Tryz.pinned (.plain (OpenSpec.upto turnWrongsSpec)) turnWrongsUptoCard
end Rows
end Go.Proofs.YteocjggepjpecaaGreatDoor
