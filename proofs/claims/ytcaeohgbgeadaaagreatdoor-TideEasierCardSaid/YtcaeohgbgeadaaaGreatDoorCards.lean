/-
  DERIVED. GIVEN WITH THE SEED: THE CARDS: each row of YtcaeohgbgeadaaaGreatDoorRows.lean that lists a variable, with what it lists TIED to the program's text (the seventh form; the later family's looks); each row that meets fmt, with fmt's text TOLD by the authors' own Lean function (tested against real Go, not proved from fmt's source: count such statements apart). THE CARD IS WHAT COUNTS. Prove the row's statement (the work); the ties are given (YtcaeohgbgeadaaaGreatDoorTie.lean); close each card by the builder's one call (the guide's Derived/Test/ToyasCard.lean, 'card_holds'). Laid BY PROGRAM, IN A SANDBOX (cutbox-door.mjs). By AI agents, Wed Nov 11 2026. No macro, syntax, notation, axiom, sorry.
-/
import Derived.Test.YtcaeohgbgeadaaaGreatDoorRows
import GoSem.ClaimSeven
namespace Go.Proofs.YtcaeohgbgeadaaaGreatDoor
namespace Rows

/-- THE TIED CARD OF 'huerlaw04.TidePlans'. -/
def tidePlansCard : Claim7 := { stood := { row := tidePlansRow, standIns := [], harness := (true, "c8d3876338a368697ed0a9f5a5d7a8ac367484479f259e32c1404d18ab823c59"), looks := false }, kinds := [], alts := [], laidByText := true, laidKinds := [.data], laidTests := true, laidLooks := .later }
def TidePlansCardSaid : Prop := Claim7.holds Tryz.pinned (.plain (OpenSpec.ofChange tidePlansSpec)) tidePlansCard

/-- THE TIED CARD OF 'huerlaw04.TideLefts'. -/
def tideLeftsCard : Claim7 := { stood := { row := tideLeftsRow, standIns := [], harness := (true, "c8d3876338a368697ed0a9f5a5d7a8ac367484479f259e32c1404d18ab823c59"), looks := false }, kinds := [], alts := [], laidByText := true, laidKinds := [.data], laidTests := true, laidLooks := .later }
def TideLeftsCardSaid : Prop := Claim7.holds Tryz.pinned (.plain (OpenSpec.ofChange tideLeftsSpec)) tideLeftsCard

/-- THE TIED CARD OF 'huerlaw04.TideBests'. -/
def tideBestsCard : Claim7 := { stood := { row := tideBestsRow, standIns := [], harness := (true, "c8d3876338a368697ed0a9f5a5d7a8ac367484479f259e32c1404d18ab823c59"), looks := false }, kinds := [], alts := [], laidByText := true, laidKinds := [.data], laidTests := true, laidLooks := .later }
def TideBestsCardSaid : Prop := Claim7.holds Tryz.pinned (.plain (OpenSpec.ofChange tideBestsSpec)) tideBestsCard

/-- THE TIED CARD OF 'huerlaw04.TideTrue'. -/
def tideTrueCard : Claim7 := { stood := { row := tideTrueRow, standIns := [], harness := (true, "c8d3876338a368697ed0a9f5a5d7a8ac367484479f259e32c1404d18ab823c59"), looks := false }, kinds := [], alts := [], laidByText := true, laidKinds := [.data], laidTests := true, laidLooks := .later }
def TideTrueCardSaid : Prop := Claim7.holds Tryz.pinned (.plain (OpenSpec.ofChange tideTrueSpec)) tideTrueCard

/-- THE TIED CARD OF 'huerlaw04.TideEnds'. -/
def tideEndsCard : Claim7 := { stood := { row := tideEndsRow, standIns := [], harness := (true, "c8d3876338a368697ed0a9f5a5d7a8ac367484479f259e32c1404d18ab823c59"), looks := false }, kinds := [], alts := [], laidByText := true, laidKinds := [.data], laidTests := true, laidLooks := .later }
def TideEndsCardSaid : Prop := Claim7.holds Tryz.pinned (.plain (OpenSpec.ofChange tideEndsSpec)) tideEndsCard

/-- THE TIED CARD OF 'huerlaw04.TideBest'. -/
def tideBestCard : Claim7 := { stood := { row := tideBestRow, standIns := [], harness := (true, "c8d3876338a368697ed0a9f5a5d7a8ac367484479f259e32c1404d18ab823c59"), looks := false }, kinds := [], alts := [], laidByText := true, laidKinds := [.data], laidTests := true, laidLooks := .later }
def TideBestCardSaid : Prop := Claim7.holds Tryz.pinned (.plain (OpenSpec.ofChange tideBestSpec)) tideBestCard

/-- THE TIED CARD OF 'huerlaw04.TideMore'. -/
def tideMoreCard : Claim7 := { stood := { row := tideMoreRow, standIns := [], harness := (true, "c8d3876338a368697ed0a9f5a5d7a8ac367484479f259e32c1404d18ab823c59"), looks := false }, kinds := [], alts := [], laidByText := true, laidKinds := [.data], laidTests := true, laidLooks := .later }
def TideMoreCardSaid : Prop := Claim7.holds Tryz.pinned (.plain (OpenSpec.ofChange tideMoreSpec)) tideMoreCard

/-- THE TIED CARD OF 'huerlaw04.TideSpare'. -/
def tideSpareCard : Claim7 := { stood := { row := tideSpareRow, standIns := [], harness := (true, "c8d3876338a368697ed0a9f5a5d7a8ac367484479f259e32c1404d18ab823c59"), looks := false }, kinds := [], alts := [], laidByText := true, laidKinds := [.data], laidTests := true, laidLooks := .later }
def TideSpareCardSaid : Prop := Claim7.holds Tryz.pinned (.plain (OpenSpec.ofChange tideSpareSpec)) tideSpareCard

/-- THE TIED CARD OF 'huerlaw04.TideEasier'. -/
def tideEasierCard : Claim7 := { stood := { row := tideEasierRow, standIns := [], harness := (true, "c8d3876338a368697ed0a9f5a5d7a8ac367484479f259e32c1404d18ab823c59"), looks := false }, kinds := [], alts := [], laidByText := true, laidKinds := [.data], laidTests := true, laidLooks := .later }
def TideEasierCardSaid : Prop := Claim7.holds Tryz.pinned (.plain (OpenSpec.ofChange tideEasierSpec)) tideEasierCard

/-- THE TIED CARD OF 'huerlaw04.TideCalm'. -/
def tideCalmCard : Claim7 := { stood := { row := tideCalmRow, standIns := [], harness := (true, "c8d3876338a368697ed0a9f5a5d7a8ac367484479f259e32c1404d18ab823c59"), looks := false }, kinds := [], alts := [], laidByText := true, laidKinds := [.data], laidTests := true, laidLooks := .later }
def TideCalmCardSaid : Prop := Claim7.holds Tryz.pinned (.plain (OpenSpec.ofChange tideCalmSpec)) tideCalmCard

/-- THE TIED CARD OF 'huertop.TopSounded'. -/
def topSoundedCard : Claim7 := { stood := { row := topSoundedRow, standIns := [], harness := (true, "c8d3876338a368697ed0a9f5a5d7a8ac367484479f259e32c1404d18ab823c59"), looks := false }, kinds := [], alts := [], laidByText := true, laidKinds := [.data, .data], laidTests := true, laidLooks := .later }
def TopSoundedCardSaid : Prop := Claim7.holds Tryz.pinned (.plain (OpenSpec.ofChange topSoundedSpec)) topSoundedCard

/-- THE TIED CARD OF 'huertop.TopMended'. -/
def topMendedCard : Claim7 := { stood := { row := topMendedRow, standIns := [], harness := (true, "c8d3876338a368697ed0a9f5a5d7a8ac367484479f259e32c1404d18ab823c59"), looks := false }, kinds := [], alts := [], laidByText := true, laidKinds := [.data, .data], laidTests := true, laidLooks := .later }
def TopMendedCardSaid : Prop := Claim7.holds Tryz.pinned (.plain (OpenSpec.ofChange topMendedSpec)) topMendedCard

/-- THE SECOND FORM's CARD OF 'huerlaw04.TidePlans'. -/
def tidePlansUptoCard : Claim7 := { stood := { row := tidePlansUptoRow, standIns := [], harness := (true, "c8d3876338a368697ed0a9f5a5d7a8ac367484479f259e32c1404d18ab823c59"), looks := false }, kinds := [], alts := [], laidByText := true, laidKinds := [.data], laidTests := true, laidLooks := .later }
def TidePlansUptoCardSaid : Prop := Claim7.holds Tryz.pinned (.plain (OpenSpec.upto tidePlansSpec)) tidePlansUptoCard

/-- THE SECOND FORM's CARD OF 'huerlaw04.TideLefts'. -/
def tideLeftsUptoCard : Claim7 := { stood := { row := tideLeftsUptoRow, standIns := [], harness := (true, "c8d3876338a368697ed0a9f5a5d7a8ac367484479f259e32c1404d18ab823c59"), looks := false }, kinds := [], alts := [], laidByText := true, laidKinds := [.data], laidTests := true, laidLooks := .later }
def TideLeftsUptoCardSaid : Prop := Claim7.holds Tryz.pinned (.plain (OpenSpec.upto tideLeftsSpec)) tideLeftsUptoCard

/-- THE SECOND FORM's CARD OF 'huerlaw04.TideBests'. -/
def tideBestsUptoCard : Claim7 := { stood := { row := tideBestsUptoRow, standIns := [], harness := (true, "c8d3876338a368697ed0a9f5a5d7a8ac367484479f259e32c1404d18ab823c59"), looks := false }, kinds := [], alts := [], laidByText := true, laidKinds := [.data], laidTests := true, laidLooks := .later }
def TideBestsUptoCardSaid : Prop := Claim7.holds Tryz.pinned (.plain (OpenSpec.upto tideBestsSpec)) tideBestsUptoCard

/-- THE SECOND FORM's CARD OF 'huerlaw04.TideTrue'. -/
def tideTrueUptoCard : Claim7 := { stood := { row := tideTrueUptoRow, standIns := [], harness := (true, "c8d3876338a368697ed0a9f5a5d7a8ac367484479f259e32c1404d18ab823c59"), looks := false }, kinds := [], alts := [], laidByText := true, laidKinds := [.data], laidTests := true, laidLooks := .later }
def TideTrueUptoCardSaid : Prop := Claim7.holds Tryz.pinned (.plain (OpenSpec.upto tideTrueSpec)) tideTrueUptoCard

/-- THE SECOND FORM's CARD OF 'huerlaw04.TideEnds'. -/
def tideEndsUptoCard : Claim7 := { stood := { row := tideEndsUptoRow, standIns := [], harness := (true, "c8d3876338a368697ed0a9f5a5d7a8ac367484479f259e32c1404d18ab823c59"), looks := false }, kinds := [], alts := [], laidByText := true, laidKinds := [.data], laidTests := true, laidLooks := .later }
def TideEndsUptoCardSaid : Prop := Claim7.holds Tryz.pinned (.plain (OpenSpec.upto tideEndsSpec)) tideEndsUptoCard

/-- THE SECOND FORM's CARD OF 'huerlaw04.TideBest'. -/
def tideBestUptoCard : Claim7 := { stood := { row := tideBestUptoRow, standIns := [], harness := (true, "c8d3876338a368697ed0a9f5a5d7a8ac367484479f259e32c1404d18ab823c59"), looks := false }, kinds := [], alts := [], laidByText := true, laidKinds := [.data], laidTests := true, laidLooks := .later }
def TideBestUptoCardSaid : Prop := Claim7.holds Tryz.pinned (.plain (OpenSpec.upto tideBestSpec)) tideBestUptoCard

/-- THE SECOND FORM's CARD OF 'huerlaw04.TideMore'. -/
def tideMoreUptoCard : Claim7 := { stood := { row := tideMoreUptoRow, standIns := [], harness := (true, "c8d3876338a368697ed0a9f5a5d7a8ac367484479f259e32c1404d18ab823c59"), looks := false }, kinds := [], alts := [], laidByText := true, laidKinds := [.data], laidTests := true, laidLooks := .later }
def TideMoreUptoCardSaid : Prop := Claim7.holds Tryz.pinned (.plain (OpenSpec.upto tideMoreSpec)) tideMoreUptoCard

/-- THE SECOND FORM's CARD OF 'huerlaw04.TideSpare'. -/
def tideSpareUptoCard : Claim7 := { stood := { row := tideSpareUptoRow, standIns := [], harness := (true, "c8d3876338a368697ed0a9f5a5d7a8ac367484479f259e32c1404d18ab823c59"), looks := false }, kinds := [], alts := [], laidByText := true, laidKinds := [.data], laidTests := true, laidLooks := .later }
def TideSpareUptoCardSaid : Prop := Claim7.holds Tryz.pinned (.plain (OpenSpec.upto tideSpareSpec)) tideSpareUptoCard

/-- THE SECOND FORM's CARD OF 'huerlaw04.TideEasier'. -/
def tideEasierUptoCard : Claim7 := { stood := { row := tideEasierUptoRow, standIns := [], harness := (true, "c8d3876338a368697ed0a9f5a5d7a8ac367484479f259e32c1404d18ab823c59"), looks := false }, kinds := [], alts := [], laidByText := true, laidKinds := [.data], laidTests := true, laidLooks := .later }
def TideEasierUptoCardSaid : Prop := Claim7.holds Tryz.pinned (.plain (OpenSpec.upto tideEasierSpec)) tideEasierUptoCard

/-- THE SECOND FORM's CARD OF 'huerlaw04.TideCalm'. -/
def tideCalmUptoCard : Claim7 := { stood := { row := tideCalmUptoRow, standIns := [], harness := (true, "c8d3876338a368697ed0a9f5a5d7a8ac367484479f259e32c1404d18ab823c59"), looks := false }, kinds := [], alts := [], laidByText := true, laidKinds := [.data], laidTests := true, laidLooks := .later }
def TideCalmUptoCardSaid : Prop := Claim7.holds Tryz.pinned (.plain (OpenSpec.upto tideCalmSpec)) tideCalmUptoCard

/-- THE SECOND FORM's CARD OF 'huertop.TopSounded'. -/
def topSoundedUptoCard : Claim7 := { stood := { row := topSoundedUptoRow, standIns := [], harness := (true, "c8d3876338a368697ed0a9f5a5d7a8ac367484479f259e32c1404d18ab823c59"), looks := false }, kinds := [], alts := [], laidByText := true, laidKinds := [.data, .data], laidTests := true, laidLooks := .later }
def TopSoundedUptoCardSaid : Prop := Claim7.holds Tryz.pinned (.plain (OpenSpec.upto topSoundedSpec)) topSoundedUptoCard

/-- THE SECOND FORM's CARD OF 'huertop.TopMended'. -/
def topMendedUptoCard : Claim7 := { stood := { row := topMendedUptoRow, standIns := [], harness := (true, "c8d3876338a368697ed0a9f5a5d7a8ac367484479f259e32c1404d18ab823c59"), looks := false }, kinds := [], alts := [], laidByText := true, laidKinds := [.data, .data], laidTests := true, laidLooks := .later }
def TopMendedUptoCardSaid : Prop := Claim7.holds Tryz.pinned (.plain (OpenSpec.upto topMendedSpec)) topMendedUptoCard
end Rows
end Go.Proofs.YtcaeohgbgeadaaaGreatDoor
