/-
  NARROWER THAN 'FOR EVERY INPUT', by the rows' own cells (each row's printed sentence says how): TurnOwners: laid · TurnFairs: laid · TurnWrongs: laid.
  DERIVED. THE GIVEN ROWS OF THIS SEAT. 3 by the template 'for every input the law returns true; each argument reads behind the call as it read before'; 0 by the template 'total and deterministic' (their statements: YteocjggepjpecaaGreatDoorTotals.lean).
  GIVEN WITH THE SEED: the statements are not yours to turn. If you find one false, say at which input.
  Laid BY PROGRAM, IN A SANDBOX (cutbox-rows.mjs): the forced cells as the released guide's own fill.sh prints them over the translation e427cc400950065e… (all of the seat's roots in one cut). By AI agents, Wed Nov 11 2026. No macro, syntax, notation, axiom, sorry.
-/
import Derived.Test.YteocjggepjpecaaGreatDoorChecked
import GoSem.Claim
import GoSem.ClaimJoined
import GoSem.ClaimMapViews
import Derived.JoinedTies
import Derived.KernelRfl
namespace Go.Proofs.YteocjggepjpecaaGreatDoor
/- THE CELL 'sum', in the pinned program and in every row, IS THE sha256 OF THE DUMP (.gsa) THAT YteocjggepjpecaaGreatDoorProg.lean LOADS. Nothing in Lean hashes anything: it is a label: what it is worth is what the hold of that sum in a sandbox is worth. -/
noncomputable def Tryz.pinned : Pinned := { name := "yteocjggepjpecaagreatdoor", sum := "e427cc400950065ef8a8bcaf84ea6d4c721475d090381f1570461bcaf11ddc6a", checked := Tryz.checked }
namespace Rows
def none {H : Type} : Left H := { results := [], args := [] }

/- WHAT THE LISTED PACKAGE-LEVEL VARIABLES READ AS WHEN THE CALL BEGINS. Each datum BY PROGRAM (the guide's laid-datum.mjs) off the statement by which the dump's own 'gosem.cut.vars' lays the variable. In a bare row this is a premise. The card (YteocjggepjpecaaGreatDoorCards.lean) ties it to the program's text. -/
def laid_huer_turn_noBounds {H : Type} : DataW H := .agg [.lit (.int .i64 1440), .lit (.int .i64 1440), .lit (.int .i64 1440), .lit (.int .i64 1440)]

/-- 'huerlaw02.TurnOwners': WHATEVER THE INPUT: true; the input reads as it did. -/
def turnOwnersSpec : ChangeSpec := { name := "turnOwners", fn := fun _ => fun
  | [d1, d2] => { results := [.lit (.bool true)], args := [d1, d2] }
  | _ => none }
def turnOwnersRow : OpenClaim := { program := "yteocjggepjpecaagreatdoor", sum := "e427cc400950065ef8a8bcaf84ea6d4c721475d090381f1570461bcaf11ddc6a", func := "huer/huerlaw02.TurnOwners", spec := "turnOwners", unfollowed := true, recurses := true, named := ["huer/turn.noBounds"], plainKeys := false, apart := false, laid := [("huer/turn.noBounds", laid_huer_turn_noBounds)] }
def TurnOwnersSaid : Prop := turnOwnersRow.holds Tryz.pinned (OpenSpec.ofChange turnOwnersSpec)

/-- ITS FALSE NEIGHBOUR: 'it returns false'. Refute it at one input. -/
def turnOwnersWrong : ChangeSpec := { name := "turnOwners", fn := fun _ => fun
  | [d1, d2] => { results := [.lit (.bool false)], args := [d1, d2] }
  | _ => none }
def TurnOwnersWrongFalsely : Prop := turnOwnersRow.holds Tryz.pinned (OpenSpec.ofChange turnOwnersWrong)

/-- 'huerlaw02.TurnFairs': WHATEVER THE INPUT: true; the input reads as it did. -/
def turnFairsSpec : ChangeSpec := { name := "turnFairs", fn := fun _ => fun
  | [d1, d2, d3] => { results := [.lit (.bool true)], args := [d1, d2, d3] }
  | _ => none }
def turnFairsRow : OpenClaim := { program := "yteocjggepjpecaagreatdoor", sum := "e427cc400950065ef8a8bcaf84ea6d4c721475d090381f1570461bcaf11ddc6a", func := "huer/huerlaw02.TurnFairs", spec := "turnFairs", unfollowed := true, recurses := true, named := ["huer/turn.noBounds"], plainKeys := false, apart := false, laid := [("huer/turn.noBounds", laid_huer_turn_noBounds)] }
def TurnFairsSaid : Prop := turnFairsRow.holds Tryz.pinned (OpenSpec.ofChange turnFairsSpec)

/-- ITS FALSE NEIGHBOUR: 'it returns false'. Refute it at one input. -/
def turnFairsWrong : ChangeSpec := { name := "turnFairs", fn := fun _ => fun
  | [d1, d2, d3] => { results := [.lit (.bool false)], args := [d1, d2, d3] }
  | _ => none }
def TurnFairsWrongFalsely : Prop := turnFairsRow.holds Tryz.pinned (OpenSpec.ofChange turnFairsWrong)

/-- 'huerlaw02.TurnWrongs': WHATEVER THE INPUT: true; the input reads as it did. -/
def turnWrongsSpec : ChangeSpec := { name := "turnWrongs", fn := fun _ => fun
  | [d] => { results := [.lit (.bool true)], args := [d] }
  | _ => none }
def turnWrongsRow : OpenClaim := { program := "yteocjggepjpecaagreatdoor", sum := "e427cc400950065ef8a8bcaf84ea6d4c721475d090381f1570461bcaf11ddc6a", func := "huer/huerlaw02.TurnWrongs", spec := "turnWrongs", unfollowed := true, recurses := true, named := ["huer/turn.noBounds"], plainKeys := false, apart := false, laid := [("huer/turn.noBounds", laid_huer_turn_noBounds)] }
def TurnWrongsSaid : Prop := turnWrongsRow.holds Tryz.pinned (OpenSpec.ofChange turnWrongsSpec)

/-- ITS FALSE NEIGHBOUR: 'it returns false'. Refute it at one input. -/
def turnWrongsWrong : ChangeSpec := { name := "turnWrongs", fn := fun _ => fun
  | [d] => { results := [.lit (.bool false)], args := [d] }
  | _ => none }
def TurnWrongsWrongFalsely : Prop := turnWrongsRow.holds Tryz.pinned (OpenSpec.ofChange turnWrongsWrong)

/- THE SECOND FORM. 'bulk': how many values and letters a reading holds, each counted each time it is reached (what is shared counts as often as it is met; a slice's spare places count too). A statement '..UptoSaid' is the law's where the arguments, and the package variables that the reading takes, are together of bulk at most 1048576: NARROWER than '..Said'. Prove '..Said' where nothing that the law and all that it calls make is longer than what came in: it says more and counts as full. Else prove '..UptoSaid'. A law counts once. -/
mutual
def uptoBulk {H : Type} : DataW H → Nat
  | .lit (.string bytes) => bytes.length + 1
  | .lit _ => 1
  | .nil => 1
  | .ptr d => uptoBulk d + 1
  | .slice elems spare => uptoBulkAll elems + uptoBulkAll spare + 1
  | .agg parts => uptoBulkAll parts + 1
  | .iface _ d => uptoBulk d + 1
  | .map entries => uptoBulkEntries entries + 1
  | .held _ => 1
def uptoBulkAll {H : Type} : List (DataW H) → Nat
  | [] => 0
  | d :: r => uptoBulk d + uptoBulkAll r
def uptoBulkEntries {H : Type} : List (Lit × DataW H) → Nat
  | [] => 0
  | x :: r => uptoBulkEntry x + uptoBulkEntries r
def uptoBulkEntry {H : Type} : Lit × DataW H → Nat
  | (.string bytes, d) => bytes.length + uptoBulk d + 1
  | (_, d) => uptoBulk d + 1
 end
def uptoSmall : (H : Type) → List (DataW H) → Bool := fun _ ds => decide (uptoBulkAll ds ≤ 1048576)
def OpenSpec.upto (s : _root_.Go.ChangeSpec) : _root_.Go.OpenSpec := { _root_.Go.OpenSpec.ofChange s with cond := some uptoSmall }

/-- 'huerlaw02.TurnOwners', WHERE WHAT IT READS IS OF BULK AT MOST 1048576: true; the input reads as it did. -/
def turnOwnersUptoRow : OpenClaim := { program := "yteocjggepjpecaagreatdoor", sum := "e427cc400950065ef8a8bcaf84ea6d4c721475d090381f1570461bcaf11ddc6a", func := "huer/huerlaw02.TurnOwners", spec := "turnOwners", unfollowed := true, recurses := true, named := ["huer/turn.noBounds"], plainKeys := false, apart := false, laid := [("huer/turn.noBounds", laid_huer_turn_noBounds)], narrowed := true }
def TurnOwnersUptoSaid : Prop := turnOwnersUptoRow.holds Tryz.pinned (OpenSpec.upto turnOwnersSpec)

/-- 'huerlaw02.TurnFairs', WHERE WHAT IT READS IS OF BULK AT MOST 1048576: true; the input reads as it did. -/
def turnFairsUptoRow : OpenClaim := { program := "yteocjggepjpecaagreatdoor", sum := "e427cc400950065ef8a8bcaf84ea6d4c721475d090381f1570461bcaf11ddc6a", func := "huer/huerlaw02.TurnFairs", spec := "turnFairs", unfollowed := true, recurses := true, named := ["huer/turn.noBounds"], plainKeys := false, apart := false, laid := [("huer/turn.noBounds", laid_huer_turn_noBounds)], narrowed := true }
def TurnFairsUptoSaid : Prop := turnFairsUptoRow.holds Tryz.pinned (OpenSpec.upto turnFairsSpec)

/-- 'huerlaw02.TurnWrongs', WHERE WHAT IT READS IS OF BULK AT MOST 1048576: true; the input reads as it did. -/
def turnWrongsUptoRow : OpenClaim := { program := "yteocjggepjpecaagreatdoor", sum := "e427cc400950065ef8a8bcaf84ea6d4c721475d090381f1570461bcaf11ddc6a", func := "huer/huerlaw02.TurnWrongs", spec := "turnWrongs", unfollowed := true, recurses := true, named := ["huer/turn.noBounds"], plainKeys := false, apart := false, laid := [("huer/turn.noBounds", laid_huer_turn_noBounds)], narrowed := true }
def TurnWrongsUptoSaid : Prop := turnWrongsUptoRow.holds Tryz.pinned (OpenSpec.upto turnWrongsSpec)

end Rows
end Go.Proofs.YteocjggepjpecaaGreatDoor
