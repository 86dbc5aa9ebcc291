/-
  DERIVED. GIVEN WITH THE SEED: THE CARDS: each row of YtjjfpbjdcmkkhaaDoorRows.lean that lists a variable, with what it lists TIED to the program's text (the seventh form; the later family's looks); each row that meets fmt, with fmt's text TOLD by the authors' own Lean function (tested against real Go, not proved from fmt's source: count such statements apart). THE CARD IS WHAT COUNTS. Prove the row's statement (the work); the ties are given (YtjjfpbjdcmkkhaaDoorTie.lean); close each card by the builder's one call (the guide's Derived/Test/ToyasCard.lean, 'card_holds'). Laid BY PROGRAM, IN A SANDBOX (cutbox-door.mjs). By AI agents, Wed Nov 11 2026. No macro, syntax, notation, axiom, sorry.
-/
import Derived.Test.YtjjfpbjdcmkkhaaDoorRows
import GoSem.ClaimSeven
namespace Go.Proofs.YtjjfpbjdcmkkhaaDoor
namespace Rows

/-- THE TIED CARD OF 'huerlaw03.SeineHolds'. -/
def seineHoldsCard : Claim7 := { stood := { row := seineHoldsRow, standIns := [], harness := (true, "e2b4946e2ccaff0b0796d7b38cb736ee14624a44247a76b6d40e9f65d7adb036"), looks := false }, kinds := [], alts := [], laidByText := true, laidKinds := [.data], laidTests := true, laidLooks := .later }
def SeineHoldsCardSaid : Prop := Claim7.holds Tryd.pinned (.plain (OpenSpec.ofChange seineHoldsSpec)) seineHoldsCard

/-- THE TIED CARD OF 'huerlaw03.SeineSaves'. -/
def seineSavesCard : Claim7 := { stood := { row := seineSavesRow, standIns := [], harness := (true, "e2b4946e2ccaff0b0796d7b38cb736ee14624a44247a76b6d40e9f65d7adb036"), looks := false }, kinds := [], alts := [], laidByText := true, laidKinds := [.data], laidTests := true, laidLooks := .later }
def SeineSavesCardSaid : Prop := Claim7.holds Tryd.pinned (.plain (OpenSpec.ofChange seineSavesSpec)) seineSavesCard

/-- THE TIED CARD OF 'huerlaw03.SeineWrongs'. -/
def seineWrongsCard : Claim7 := { stood := { row := seineWrongsRow, standIns := [], harness := (true, "e2b4946e2ccaff0b0796d7b38cb736ee14624a44247a76b6d40e9f65d7adb036"), looks := false }, kinds := [], alts := [], laidByText := true, laidKinds := [.data], laidTests := true, laidLooks := .later }
def SeineWrongsCardSaid : Prop := Claim7.holds Tryd.pinned (.plain (OpenSpec.ofChange seineWrongsSpec)) seineWrongsCard

/-- THE TIED CARD OF 'huerlaw03.SeineTrue'. -/
def seineTrueCard : Claim7 := { stood := { row := seineTrueRow, standIns := [], harness := (true, "e2b4946e2ccaff0b0796d7b38cb736ee14624a44247a76b6d40e9f65d7adb036"), looks := false }, kinds := [], alts := [], laidByText := true, laidKinds := [.data], laidTests := true, laidLooks := .later }
def SeineTrueCardSaid : Prop := Claim7.holds Tryd.pinned (.plain (OpenSpec.ofChange seineTrueSpec)) seineTrueCard

/-- THE TIED CARD OF 'huerlaw03.SeineEnds'. -/
def seineEndsCard : Claim7 := { stood := { row := seineEndsRow, standIns := [], harness := (true, "e2b4946e2ccaff0b0796d7b38cb736ee14624a44247a76b6d40e9f65d7adb036"), looks := false }, kinds := [], alts := [], laidByText := true, laidKinds := [.data], laidTests := true, laidLooks := .later }
def SeineEndsCardSaid : Prop := Claim7.holds Tryd.pinned (.plain (OpenSpec.ofChange seineEndsSpec)) seineEndsCard

/-- THE TIED CARD OF 'huerlaw03.SeineMore'. -/
def seineMoreCard : Claim7 := { stood := { row := seineMoreRow, standIns := [], harness := (true, "e2b4946e2ccaff0b0796d7b38cb736ee14624a44247a76b6d40e9f65d7adb036"), looks := false }, kinds := [], alts := [], laidByText := true, laidKinds := [.data], laidTests := true, laidLooks := .later }
def SeineMoreCardSaid : Prop := Claim7.holds Tryd.pinned (.plain (OpenSpec.ofChange seineMoreSpec)) seineMoreCard

/-- THE TIED CARD OF 'huerlaw03.SeineLater'. -/
def seineLaterCard : Claim7 := { stood := { row := seineLaterRow, standIns := [], harness := (true, "e2b4946e2ccaff0b0796d7b38cb736ee14624a44247a76b6d40e9f65d7adb036"), looks := false }, kinds := [], alts := [], laidByText := true, laidKinds := [.data], laidTests := true, laidLooks := .later }
def SeineLaterCardSaid : Prop := Claim7.holds Tryd.pinned (.plain (OpenSpec.ofChange seineLaterSpec)) seineLaterCard

/-- THE TIED CARD OF 'huerlaw03.SeineSaved'. -/
def seineSavedCard : Claim7 := { stood := { row := seineSavedRow, standIns := [], harness := (true, "e2b4946e2ccaff0b0796d7b38cb736ee14624a44247a76b6d40e9f65d7adb036"), looks := false }, kinds := [], alts := [], laidByText := true, laidKinds := [.data], laidTests := true, laidLooks := .later }
def SeineSavedCardSaid : Prop := Claim7.holds Tryd.pinned (.plain (OpenSpec.ofChange seineSavedSpec)) seineSavedCard

/-- THE TIED CARD OF 'huerlaw03.SeineWrong'. -/
def seineWrongCard : Claim7 := { stood := { row := seineWrongRow, standIns := [], harness := (true, "e2b4946e2ccaff0b0796d7b38cb736ee14624a44247a76b6d40e9f65d7adb036"), looks := false }, kinds := [], alts := [], laidByText := true, laidKinds := [.data], laidTests := true, laidLooks := .later }
def SeineWrongCardSaid : Prop := Claim7.holds Tryd.pinned (.plain (OpenSpec.ofChange seineWrongSpec)) seineWrongCard

/-- THE TIED CARD OF 'huerlaw03.SeinePlain'. -/
def seinePlainCard : Claim7 := { stood := { row := seinePlainRow, standIns := [], harness := (true, "e2b4946e2ccaff0b0796d7b38cb736ee14624a44247a76b6d40e9f65d7adb036"), looks := false }, kinds := [], alts := [], laidByText := true, laidKinds := [.data], laidTests := true, laidLooks := .later }
def SeinePlainCardSaid : Prop := Claim7.holds Tryd.pinned (.plain (OpenSpec.ofChange seinePlainSpec)) seinePlainCard

/-- THE TIED CARD OF 'huerlaw03.SeineKnown'. -/
def seineKnownCard : Claim7 := { stood := { row := seineKnownRow, standIns := [], harness := (true, "e2b4946e2ccaff0b0796d7b38cb736ee14624a44247a76b6d40e9f65d7adb036"), looks := false }, kinds := [], alts := [], laidByText := true, laidKinds := [.data], laidTests := true, laidLooks := .later }
def SeineKnownCardSaid : Prop := Claim7.holds Tryd.pinned (.plain (OpenSpec.ofChange seineKnownSpec)) seineKnownCard

/-- THE SECOND FORM's CARD OF 'huerlaw03.SeineHolds'. -/
def seineHoldsUptoCard : Claim7 := { stood := { row := seineHoldsUptoRow, standIns := [], harness := (true, "e2b4946e2ccaff0b0796d7b38cb736ee14624a44247a76b6d40e9f65d7adb036"), looks := false }, kinds := [], alts := [], laidByText := true, laidKinds := [.data], laidTests := true, laidLooks := .later }
def SeineHoldsUptoCardSaid : Prop := Claim7.holds Tryd.pinned (.plain (OpenSpec.upto seineHoldsSpec)) seineHoldsUptoCard

/-- THE SECOND FORM's CARD OF 'huerlaw03.SeineSaves'. -/
def seineSavesUptoCard : Claim7 := { stood := { row := seineSavesUptoRow, standIns := [], harness := (true, "e2b4946e2ccaff0b0796d7b38cb736ee14624a44247a76b6d40e9f65d7adb036"), looks := false }, kinds := [], alts := [], laidByText := true, laidKinds := [.data], laidTests := true, laidLooks := .later }
def SeineSavesUptoCardSaid : Prop := Claim7.holds Tryd.pinned (.plain (OpenSpec.upto seineSavesSpec)) seineSavesUptoCard

/-- THE SECOND FORM's CARD OF 'huerlaw03.SeineWrongs'. -/
def seineWrongsUptoCard : Claim7 := { stood := { row := seineWrongsUptoRow, standIns := [], harness := (true, "e2b4946e2ccaff0b0796d7b38cb736ee14624a44247a76b6d40e9f65d7adb036"), looks := false }, kinds := [], alts := [], laidByText := true, laidKinds := [.data], laidTests := true, laidLooks := .later }
def SeineWrongsUptoCardSaid : Prop := Claim7.holds Tryd.pinned (.plain (OpenSpec.upto seineWrongsSpec)) seineWrongsUptoCard

/-- THE SECOND FORM's CARD OF 'huerlaw03.SeineTrue'. -/
def seineTrueUptoCard : Claim7 := { stood := { row := seineTrueUptoRow, standIns := [], harness := (true, "e2b4946e2ccaff0b0796d7b38cb736ee14624a44247a76b6d40e9f65d7adb036"), looks := false }, kinds := [], alts := [], laidByText := true, laidKinds := [.data], laidTests := true, laidLooks := .later }
def SeineTrueUptoCardSaid : Prop := Claim7.holds Tryd.pinned (.plain (OpenSpec.upto seineTrueSpec)) seineTrueUptoCard

/-- THE SECOND FORM's CARD OF 'huerlaw03.SeineEnds'. -/
def seineEndsUptoCard : Claim7 := { stood := { row := seineEndsUptoRow, standIns := [], harness := (true, "e2b4946e2ccaff0b0796d7b38cb736ee14624a44247a76b6d40e9f65d7adb036"), looks := false }, kinds := [], alts := [], laidByText := true, laidKinds := [.data], laidTests := true, laidLooks := .later }
def SeineEndsUptoCardSaid : Prop := Claim7.holds Tryd.pinned (.plain (OpenSpec.upto seineEndsSpec)) seineEndsUptoCard

/-- THE SECOND FORM's CARD OF 'huerlaw03.SeineMore'. -/
def seineMoreUptoCard : Claim7 := { stood := { row := seineMoreUptoRow, standIns := [], harness := (true, "e2b4946e2ccaff0b0796d7b38cb736ee14624a44247a76b6d40e9f65d7adb036"), looks := false }, kinds := [], alts := [], laidByText := true, laidKinds := [.data], laidTests := true, laidLooks := .later }
def SeineMoreUptoCardSaid : Prop := Claim7.holds Tryd.pinned (.plain (OpenSpec.upto seineMoreSpec)) seineMoreUptoCard

/-- THE SECOND FORM's CARD OF 'huerlaw03.SeineLater'. -/
def seineLaterUptoCard : Claim7 := { stood := { row := seineLaterUptoRow, standIns := [], harness := (true, "e2b4946e2ccaff0b0796d7b38cb736ee14624a44247a76b6d40e9f65d7adb036"), looks := false }, kinds := [], alts := [], laidByText := true, laidKinds := [.data], laidTests := true, laidLooks := .later }
def SeineLaterUptoCardSaid : Prop := Claim7.holds Tryd.pinned (.plain (OpenSpec.upto seineLaterSpec)) seineLaterUptoCard

/-- THE SECOND FORM's CARD OF 'huerlaw03.SeineSaved'. -/
def seineSavedUptoCard : Claim7 := { stood := { row := seineSavedUptoRow, standIns := [], harness := (true, "e2b4946e2ccaff0b0796d7b38cb736ee14624a44247a76b6d40e9f65d7adb036"), looks := false }, kinds := [], alts := [], laidByText := true, laidKinds := [.data], laidTests := true, laidLooks := .later }
def SeineSavedUptoCardSaid : Prop := Claim7.holds Tryd.pinned (.plain (OpenSpec.upto seineSavedSpec)) seineSavedUptoCard

/-- THE SECOND FORM's CARD OF 'huerlaw03.SeineWrong'. -/
def seineWrongUptoCard : Claim7 := { stood := { row := seineWrongUptoRow, standIns := [], harness := (true, "e2b4946e2ccaff0b0796d7b38cb736ee14624a44247a76b6d40e9f65d7adb036"), looks := false }, kinds := [], alts := [], laidByText := true, laidKinds := [.data], laidTests := true, laidLooks := .later }
def SeineWrongUptoCardSaid : Prop := Claim7.holds Tryd.pinned (.plain (OpenSpec.upto seineWrongSpec)) seineWrongUptoCard

/-- THE SECOND FORM's CARD OF 'huerlaw03.SeinePlain'. -/
def seinePlainUptoCard : Claim7 := { stood := { row := seinePlainUptoRow, standIns := [], harness := (true, "e2b4946e2ccaff0b0796d7b38cb736ee14624a44247a76b6d40e9f65d7adb036"), looks := false }, kinds := [], alts := [], laidByText := true, laidKinds := [.data], laidTests := true, laidLooks := .later }
def SeinePlainUptoCardSaid : Prop := Claim7.holds Tryd.pinned (.plain (OpenSpec.upto seinePlainSpec)) seinePlainUptoCard

/-- THE SECOND FORM's CARD OF 'huerlaw03.SeineKnown'. -/
def seineKnownUptoCard : Claim7 := { stood := { row := seineKnownUptoRow, standIns := [], harness := (true, "e2b4946e2ccaff0b0796d7b38cb736ee14624a44247a76b6d40e9f65d7adb036"), looks := false }, kinds := [], alts := [], laidByText := true, laidKinds := [.data], laidTests := true, laidLooks := .later }
def SeineKnownUptoCardSaid : Prop := Claim7.holds Tryd.pinned (.plain (OpenSpec.upto seineKnownSpec)) seineKnownUptoCard
end Rows
end Go.Proofs.YtjjfpbjdcmkkhaaDoor
