/-
  NARROWER THAN 'FOR EVERY INPUT', by the rows' own cells (each row's printed sentence says how): SeineHolds: laid · SeineSaves: laid · SeineWrongs: laid · SeineTrue: laid · SeineEnds: laid · SeineMore: laid · SeineLater: laid · SeineSaved: laid · SeineWrong: laid · SeinePlain: laid · SeineKnown: laid.
  DERIVED. THE GIVEN ROWS OF THIS SEAT. 11 by the template 'for every input the law returns true; each argument reads behind the call as it read before'; 0 by the template 'total and deterministic' (their statements: YtjjfpbjdcmkkhaaDoorTotals.lean).
  GIVEN WITH THE SEED: the statements are not yours to turn. If you find one false, say at which input.
  Laid BY PROGRAM, IN A SANDBOX (cutbox-rows.mjs): the forced cells as the released guide's own fill.sh prints them over the translation 793aea456b751a59… (all of the seat's roots in one cut). By AI agents, Wed Nov 11 2026. No macro, syntax, notation, axiom, sorry.
-/
import Derived.Test.YtjjfpbjdcmkkhaaDoorChecked
import GoSem.Claim
import GoSem.ClaimJoined
import GoSem.ClaimMapViews
import Derived.JoinedTies
import Derived.KernelRfl
namespace Go.Proofs.YtjjfpbjdcmkkhaaDoor
/- THE CELL 'sum', in the pinned program and in every row, IS THE sha256 OF THE DUMP (.gsa) THAT YtjjfpbjdcmkkhaaDoorProg.lean LOADS. Nothing in Lean hashes anything: it is a label: what it is worth is what the hold of that sum in a sandbox is worth. -/
noncomputable def Tryd.pinned : Pinned := { name := "ytjjfpbjdcmkkhaadoor", sum := "793aea456b751a59e90251876cc7f6845fe40c039e6f6c7713f6ed373ad1769e", checked := Tryd.checked }
namespace Rows
def none {H : Type} : Left H := { results := [], args := [] }

/- WHAT THE LISTED PACKAGE-LEVEL VARIABLES READ AS WHEN THE CALL BEGINS. Each datum BY PROGRAM (the guide's laid-datum.mjs) off the statement by which the dump's own 'gosem.cut.vars' lays the variable. In a bare row this is a premise. The card (YtjjfpbjdcmkkhaaDoorCards.lean) ties it to the program's text. -/
def laid_huer_seine_mostMany {H : Type} : DataW H := .agg [.lit (.int .i64 400), .lit (.int .i64 9), .lit (.int .i64 0), .lit (.int .i64 400), .lit (.int .i64 400)]

/-- 'huerlaw03.SeineHolds': WHATEVER THE INPUT: true; the input reads as it did. -/
def seineHoldsSpec : ChangeSpec := { name := "seineHolds", fn := fun _ => fun
  | [d1, d2] => { results := [.lit (.bool true)], args := [d1, d2] }
  | _ => none }
def seineHoldsRow : OpenClaim := { program := "ytjjfpbjdcmkkhaadoor", sum := "793aea456b751a59e90251876cc7f6845fe40c039e6f6c7713f6ed373ad1769e", func := "huer/huerlaw03.SeineHolds", spec := "seineHolds", unfollowed := true, recurses := true, named := ["huer/seine.mostMany"], plainKeys := false, apart := false, laid := [("huer/seine.mostMany", laid_huer_seine_mostMany)] }
def SeineHoldsSaid : Prop := seineHoldsRow.holds Tryd.pinned (OpenSpec.ofChange seineHoldsSpec)

/-- ITS FALSE NEIGHBOUR: 'it returns false'. Refute it at one input. -/
def seineHoldsWrong : ChangeSpec := { name := "seineHolds", fn := fun _ => fun
  | [d1, d2] => { results := [.lit (.bool false)], args := [d1, d2] }
  | _ => none }
def SeineHoldsWrongFalsely : Prop := seineHoldsRow.holds Tryd.pinned (OpenSpec.ofChange seineHoldsWrong)

/-- 'huerlaw03.SeineSaves': WHATEVER THE INPUT: true; the input reads as it did. -/
def seineSavesSpec : ChangeSpec := { name := "seineSaves", fn := fun _ => fun
  | [d1, d2] => { results := [.lit (.bool true)], args := [d1, d2] }
  | _ => none }
def seineSavesRow : OpenClaim := { program := "ytjjfpbjdcmkkhaadoor", sum := "793aea456b751a59e90251876cc7f6845fe40c039e6f6c7713f6ed373ad1769e", func := "huer/huerlaw03.SeineSaves", spec := "seineSaves", unfollowed := true, recurses := true, named := ["huer/seine.mostMany"], plainKeys := false, apart := false, laid := [("huer/seine.mostMany", laid_huer_seine_mostMany)] }
def SeineSavesSaid : Prop := seineSavesRow.holds Tryd.pinned (OpenSpec.ofChange seineSavesSpec)

/-- ITS FALSE NEIGHBOUR: 'it returns false'. Refute it at one input. -/
def seineSavesWrong : ChangeSpec := { name := "seineSaves", fn := fun _ => fun
  | [d1, d2] => { results := [.lit (.bool false)], args := [d1, d2] }
  | _ => none }
def SeineSavesWrongFalsely : Prop := seineSavesRow.holds Tryd.pinned (OpenSpec.ofChange seineSavesWrong)

/-- 'huerlaw03.SeineWrongs': WHATEVER THE INPUT: true; the input reads as it did. -/
def seineWrongsSpec : ChangeSpec := { name := "seineWrongs", fn := fun _ => fun
  | [d] => { results := [.lit (.bool true)], args := [d] }
  | _ => none }
def seineWrongsRow : OpenClaim := { program := "ytjjfpbjdcmkkhaadoor", sum := "793aea456b751a59e90251876cc7f6845fe40c039e6f6c7713f6ed373ad1769e", func := "huer/huerlaw03.SeineWrongs", spec := "seineWrongs", unfollowed := true, recurses := true, named := ["huer/seine.mostMany"], plainKeys := false, apart := false, laid := [("huer/seine.mostMany", laid_huer_seine_mostMany)] }
def SeineWrongsSaid : Prop := seineWrongsRow.holds Tryd.pinned (OpenSpec.ofChange seineWrongsSpec)

/-- ITS FALSE NEIGHBOUR: 'it returns false'. Refute it at one input. -/
def seineWrongsWrong : ChangeSpec := { name := "seineWrongs", fn := fun _ => fun
  | [d] => { results := [.lit (.bool false)], args := [d] }
  | _ => none }
def SeineWrongsWrongFalsely : Prop := seineWrongsRow.holds Tryd.pinned (OpenSpec.ofChange seineWrongsWrong)

/-- 'huerlaw03.SeineTrue': WHATEVER THE INPUT: true; the input reads as it did. -/
def seineTrueSpec : ChangeSpec := { name := "seineTrue", fn := fun _ => fun
  | [d1, d2, d3] => { results := [.lit (.bool true)], args := [d1, d2, d3] }
  | _ => none }
def seineTrueRow : OpenClaim := { program := "ytjjfpbjdcmkkhaadoor", sum := "793aea456b751a59e90251876cc7f6845fe40c039e6f6c7713f6ed373ad1769e", func := "huer/huerlaw03.SeineTrue", spec := "seineTrue", unfollowed := true, recurses := true, named := ["huer/seine.mostMany"], plainKeys := false, apart := false, laid := [("huer/seine.mostMany", laid_huer_seine_mostMany)] }
def SeineTrueSaid : Prop := seineTrueRow.holds Tryd.pinned (OpenSpec.ofChange seineTrueSpec)

/-- ITS FALSE NEIGHBOUR: 'it returns false'. Refute it at one input. -/
def seineTrueWrong : ChangeSpec := { name := "seineTrue", fn := fun _ => fun
  | [d1, d2, d3] => { results := [.lit (.bool false)], args := [d1, d2, d3] }
  | _ => none }
def SeineTrueWrongFalsely : Prop := seineTrueRow.holds Tryd.pinned (OpenSpec.ofChange seineTrueWrong)

/-- 'huerlaw03.SeineEnds': WHATEVER THE INPUT: true; the input reads as it did. -/
def seineEndsSpec : ChangeSpec := { name := "seineEnds", fn := fun _ => fun
  | [d1, d2] => { results := [.lit (.bool true)], args := [d1, d2] }
  | _ => none }
def seineEndsRow : OpenClaim := { program := "ytjjfpbjdcmkkhaadoor", sum := "793aea456b751a59e90251876cc7f6845fe40c039e6f6c7713f6ed373ad1769e", func := "huer/huerlaw03.SeineEnds", spec := "seineEnds", unfollowed := true, recurses := true, named := ["huer/seine.mostMany"], plainKeys := false, apart := false, laid := [("huer/seine.mostMany", laid_huer_seine_mostMany)] }
def SeineEndsSaid : Prop := seineEndsRow.holds Tryd.pinned (OpenSpec.ofChange seineEndsSpec)

/-- ITS FALSE NEIGHBOUR: 'it returns false'. Refute it at one input. -/
def seineEndsWrong : ChangeSpec := { name := "seineEnds", fn := fun _ => fun
  | [d1, d2] => { results := [.lit (.bool false)], args := [d1, d2] }
  | _ => none }
def SeineEndsWrongFalsely : Prop := seineEndsRow.holds Tryd.pinned (OpenSpec.ofChange seineEndsWrong)

/-- 'huerlaw03.SeineMore': WHATEVER THE INPUT: true; the input reads as it did. -/
def seineMoreSpec : ChangeSpec := { name := "seineMore", fn := fun _ => fun
  | [d1, d2, d3] => { results := [.lit (.bool true)], args := [d1, d2, d3] }
  | _ => none }
def seineMoreRow : OpenClaim := { program := "ytjjfpbjdcmkkhaadoor", sum := "793aea456b751a59e90251876cc7f6845fe40c039e6f6c7713f6ed373ad1769e", func := "huer/huerlaw03.SeineMore", spec := "seineMore", unfollowed := true, recurses := true, named := ["huer/seine.mostMany"], plainKeys := false, apart := false, laid := [("huer/seine.mostMany", laid_huer_seine_mostMany)] }
def SeineMoreSaid : Prop := seineMoreRow.holds Tryd.pinned (OpenSpec.ofChange seineMoreSpec)

/-- ITS FALSE NEIGHBOUR: 'it returns false'. Refute it at one input. -/
def seineMoreWrong : ChangeSpec := { name := "seineMore", fn := fun _ => fun
  | [d1, d2, d3] => { results := [.lit (.bool false)], args := [d1, d2, d3] }
  | _ => none }
def SeineMoreWrongFalsely : Prop := seineMoreRow.holds Tryd.pinned (OpenSpec.ofChange seineMoreWrong)

/-- 'huerlaw03.SeineLater': WHATEVER THE INPUT: true; the input reads as it did. -/
def seineLaterSpec : ChangeSpec := { name := "seineLater", fn := fun _ => fun
  | [d1, d2] => { results := [.lit (.bool true)], args := [d1, d2] }
  | _ => none }
def seineLaterRow : OpenClaim := { program := "ytjjfpbjdcmkkhaadoor", sum := "793aea456b751a59e90251876cc7f6845fe40c039e6f6c7713f6ed373ad1769e", func := "huer/huerlaw03.SeineLater", spec := "seineLater", unfollowed := true, recurses := true, named := ["huer/seine.mostMany"], plainKeys := false, apart := false, laid := [("huer/seine.mostMany", laid_huer_seine_mostMany)] }
def SeineLaterSaid : Prop := seineLaterRow.holds Tryd.pinned (OpenSpec.ofChange seineLaterSpec)

/-- ITS FALSE NEIGHBOUR: 'it returns false'. Refute it at one input. -/
def seineLaterWrong : ChangeSpec := { name := "seineLater", fn := fun _ => fun
  | [d1, d2] => { results := [.lit (.bool false)], args := [d1, d2] }
  | _ => none }
def SeineLaterWrongFalsely : Prop := seineLaterRow.holds Tryd.pinned (OpenSpec.ofChange seineLaterWrong)

/-- 'huerlaw03.SeineSaved': WHATEVER THE INPUT: true; the input reads as it did. -/
def seineSavedSpec : ChangeSpec := { name := "seineSaved", fn := fun _ => fun
  | [d] => { results := [.lit (.bool true)], args := [d] }
  | _ => none }
def seineSavedRow : OpenClaim := { program := "ytjjfpbjdcmkkhaadoor", sum := "793aea456b751a59e90251876cc7f6845fe40c039e6f6c7713f6ed373ad1769e", func := "huer/huerlaw03.SeineSaved", spec := "seineSaved", unfollowed := true, recurses := true, named := ["huer/seine.mostMany"], plainKeys := false, apart := false, laid := [("huer/seine.mostMany", laid_huer_seine_mostMany)] }
def SeineSavedSaid : Prop := seineSavedRow.holds Tryd.pinned (OpenSpec.ofChange seineSavedSpec)

/-- ITS FALSE NEIGHBOUR: 'it returns false'. Refute it at one input. -/
def seineSavedWrong : ChangeSpec := { name := "seineSaved", fn := fun _ => fun
  | [d] => { results := [.lit (.bool false)], args := [d] }
  | _ => none }
def SeineSavedWrongFalsely : Prop := seineSavedRow.holds Tryd.pinned (OpenSpec.ofChange seineSavedWrong)

/-- 'huerlaw03.SeineWrong': WHATEVER THE INPUT: true; the input reads as it did. -/
def seineWrongSpec : ChangeSpec := { name := "seineWrong", fn := fun _ => fun
  | [d1, d2] => { results := [.lit (.bool true)], args := [d1, d2] }
  | _ => none }
def seineWrongRow : OpenClaim := { program := "ytjjfpbjdcmkkhaadoor", sum := "793aea456b751a59e90251876cc7f6845fe40c039e6f6c7713f6ed373ad1769e", func := "huer/huerlaw03.SeineWrong", spec := "seineWrong", unfollowed := true, recurses := true, named := ["huer/seine.mostMany"], plainKeys := false, apart := false, laid := [("huer/seine.mostMany", laid_huer_seine_mostMany)] }
def SeineWrongSaid : Prop := seineWrongRow.holds Tryd.pinned (OpenSpec.ofChange seineWrongSpec)

/-- ITS FALSE NEIGHBOUR: 'it returns false'. Refute it at one input. -/
def seineWrongWrong : ChangeSpec := { name := "seineWrong", fn := fun _ => fun
  | [d1, d2] => { results := [.lit (.bool false)], args := [d1, d2] }
  | _ => none }
def SeineWrongWrongFalsely : Prop := seineWrongRow.holds Tryd.pinned (OpenSpec.ofChange seineWrongWrong)

/-- 'huerlaw03.SeinePlain': WHATEVER THE INPUT: true; the input reads as it did. -/
def seinePlainSpec : ChangeSpec := { name := "seinePlain", fn := fun _ => fun
  | [d1, d2] => { results := [.lit (.bool true)], args := [d1, d2] }
  | _ => none }
def seinePlainRow : OpenClaim := { program := "ytjjfpbjdcmkkhaadoor", sum := "793aea456b751a59e90251876cc7f6845fe40c039e6f6c7713f6ed373ad1769e", func := "huer/huerlaw03.SeinePlain", spec := "seinePlain", unfollowed := true, recurses := true, named := ["huer/seine.mostMany"], plainKeys := false, apart := false, laid := [("huer/seine.mostMany", laid_huer_seine_mostMany)] }
def SeinePlainSaid : Prop := seinePlainRow.holds Tryd.pinned (OpenSpec.ofChange seinePlainSpec)

/-- ITS FALSE NEIGHBOUR: 'it returns false'. Refute it at one input. -/
def seinePlainWrong : ChangeSpec := { name := "seinePlain", fn := fun _ => fun
  | [d1, d2] => { results := [.lit (.bool false)], args := [d1, d2] }
  | _ => none }
def SeinePlainWrongFalsely : Prop := seinePlainRow.holds Tryd.pinned (OpenSpec.ofChange seinePlainWrong)

/-- 'huerlaw03.SeineKnown': WHATEVER THE INPUT: true; the input reads as it did. -/
def seineKnownSpec : ChangeSpec := { name := "seineKnown", fn := fun _ => fun
  | [] => { results := [.lit (.bool true)], args := [] }
  | _ => none }
def seineKnownRow : OpenClaim := { program := "ytjjfpbjdcmkkhaadoor", sum := "793aea456b751a59e90251876cc7f6845fe40c039e6f6c7713f6ed373ad1769e", func := "huer/huerlaw03.SeineKnown", spec := "seineKnown", unfollowed := true, recurses := true, named := ["huer/seine.mostMany"], plainKeys := false, apart := false, laid := [("huer/seine.mostMany", laid_huer_seine_mostMany)] }
def SeineKnownSaid : Prop := seineKnownRow.holds Tryd.pinned (OpenSpec.ofChange seineKnownSpec)

/-- ITS FALSE NEIGHBOUR: 'it returns false'. Refute it at one input. -/
def seineKnownWrong : ChangeSpec := { name := "seineKnown", fn := fun _ => fun
  | [] => { results := [.lit (.bool false)], args := [] }
  | _ => none }
def SeineKnownWrongFalsely : Prop := seineKnownRow.holds Tryd.pinned (OpenSpec.ofChange seineKnownWrong)

/- THE SECOND FORM. 'bulk': how many values and letters a reading holds, each counted each time it is reached (what is shared counts as often as it is met; a slice's spare places count too). A statement '..UptoSaid' is the law's where the arguments, and the package variables that the reading takes, are together of bulk at most 1048576: NARROWER than '..Said'. Prove '..Said' where nothing that the law and all that it calls make is longer than what came in: it says more and counts as full. Else prove '..UptoSaid'. A law counts once. -/
mutual
def uptoBulk {H : Type} : DataW H → Nat
  | .lit (.string bytes) => bytes.length + 1
  | .lit _ => 1
  | .nil => 1
  | .ptr d => uptoBulk d + 1
  | .slice elems spare => uptoBulkAll elems + uptoBulkAll spare + 1
  | .agg parts => uptoBulkAll parts + 1
  | .iface _ d => uptoBulk d + 1
  | .map entries => uptoBulkEntries entries + 1
  | .held _ => 1
def uptoBulkAll {H : Type} : List (DataW H) → Nat
  | [] => 0
  | d :: r => uptoBulk d + uptoBulkAll r
def uptoBulkEntries {H : Type} : List (Lit × DataW H) → Nat
  | [] => 0
  | x :: r => uptoBulkEntry x + uptoBulkEntries r
def uptoBulkEntry {H : Type} : Lit × DataW H → Nat
  | (.string bytes, d) => bytes.length + uptoBulk d + 1
  | (_, d) => uptoBulk d + 1
 end
def uptoSmall : (H : Type) → List (DataW H) → Bool := fun _ ds => decide (uptoBulkAll ds ≤ 1048576)
def OpenSpec.upto (s : _root_.Go.ChangeSpec) : _root_.Go.OpenSpec := { _root_.Go.OpenSpec.ofChange s with cond := some uptoSmall }

/-- 'huerlaw03.SeineHolds', WHERE WHAT IT READS IS OF BULK AT MOST 1048576: true; the input reads as it did. -/
def seineHoldsUptoRow : OpenClaim := { program := "ytjjfpbjdcmkkhaadoor", sum := "793aea456b751a59e90251876cc7f6845fe40c039e6f6c7713f6ed373ad1769e", func := "huer/huerlaw03.SeineHolds", spec := "seineHolds", unfollowed := true, recurses := true, named := ["huer/seine.mostMany"], plainKeys := false, apart := false, laid := [("huer/seine.mostMany", laid_huer_seine_mostMany)], narrowed := true }
def SeineHoldsUptoSaid : Prop := seineHoldsUptoRow.holds Tryd.pinned (OpenSpec.upto seineHoldsSpec)

/-- 'huerlaw03.SeineSaves', WHERE WHAT IT READS IS OF BULK AT MOST 1048576: true; the input reads as it did. -/
def seineSavesUptoRow : OpenClaim := { program := "ytjjfpbjdcmkkhaadoor", sum := "793aea456b751a59e90251876cc7f6845fe40c039e6f6c7713f6ed373ad1769e", func := "huer/huerlaw03.SeineSaves", spec := "seineSaves", unfollowed := true, recurses := true, named := ["huer/seine.mostMany"], plainKeys := false, apart := false, laid := [("huer/seine.mostMany", laid_huer_seine_mostMany)], narrowed := true }
def SeineSavesUptoSaid : Prop := seineSavesUptoRow.holds Tryd.pinned (OpenSpec.upto seineSavesSpec)

/-- 'huerlaw03.SeineWrongs', WHERE WHAT IT READS IS OF BULK AT MOST 1048576: true; the input reads as it did. -/
def seineWrongsUptoRow : OpenClaim := { program := "ytjjfpbjdcmkkhaadoor", sum := "793aea456b751a59e90251876cc7f6845fe40c039e6f6c7713f6ed373ad1769e", func := "huer/huerlaw03.SeineWrongs", spec := "seineWrongs", unfollowed := true, recurses := true, named := ["huer/seine.mostMany"], plainKeys := false, apart := false, laid := [("huer/seine.mostMany", laid_huer_seine_mostMany)], narrowed := true }
def SeineWrongsUptoSaid : Prop := seineWrongsUptoRow.holds Tryd.pinned (OpenSpec.upto seineWrongsSpec)

/-- 'huerlaw03.SeineTrue', WHERE WHAT IT READS IS OF BULK AT MOST 1048576: true; the input reads as it did. -/
def seineTrueUptoRow : OpenClaim := { program := "ytjjfpbjdcmkkhaadoor", sum := "793aea456b751a59e90251876cc7f6845fe40c039e6f6c7713f6ed373ad1769e", func := "huer/huerlaw03.SeineTrue", spec := "seineTrue", unfollowed := true, recurses := true, named := ["huer/seine.mostMany"], plainKeys := false, apart := false, laid := [("huer/seine.mostMany", laid_huer_seine_mostMany)], narrowed := true }
def SeineTrueUptoSaid : Prop := seineTrueUptoRow.holds Tryd.pinned (OpenSpec.upto seineTrueSpec)

/-- 'huerlaw03.SeineEnds', WHERE WHAT IT READS IS OF BULK AT MOST 1048576: true; the input reads as it did. -/
def seineEndsUptoRow : OpenClaim := { program := "ytjjfpbjdcmkkhaadoor", sum := "793aea456b751a59e90251876cc7f6845fe40c039e6f6c7713f6ed373ad1769e", func := "huer/huerlaw03.SeineEnds", spec := "seineEnds", unfollowed := true, recurses := true, named := ["huer/seine.mostMany"], plainKeys := false, apart := false, laid := [("huer/seine.mostMany", laid_huer_seine_mostMany)], narrowed := true }
def SeineEndsUptoSaid : Prop := seineEndsUptoRow.holds Tryd.pinned (OpenSpec.upto seineEndsSpec)

/-- 'huerlaw03.SeineMore', WHERE WHAT IT READS IS OF BULK AT MOST 1048576: true; the input reads as it did. -/
def seineMoreUptoRow : OpenClaim := { program := "ytjjfpbjdcmkkhaadoor", sum := "793aea456b751a59e90251876cc7f6845fe40c039e6f6c7713f6ed373ad1769e", func := "huer/huerlaw03.SeineMore", spec := "seineMore", unfollowed := true, recurses := true, named := ["huer/seine.mostMany"], plainKeys := false, apart := false, laid := [("huer/seine.mostMany", laid_huer_seine_mostMany)], narrowed := true }
def SeineMoreUptoSaid : Prop := seineMoreUptoRow.holds Tryd.pinned (OpenSpec.upto seineMoreSpec)

/-- 'huerlaw03.SeineLater', WHERE WHAT IT READS IS OF BULK AT MOST 1048576: true; the input reads as it did. -/
def seineLaterUptoRow : OpenClaim := { program := "ytjjfpbjdcmkkhaadoor", sum := "793aea456b751a59e90251876cc7f6845fe40c039e6f6c7713f6ed373ad1769e", func := "huer/huerlaw03.SeineLater", spec := "seineLater", unfollowed := true, recurses := true, named := ["huer/seine.mostMany"], plainKeys := false, apart := false, laid := [("huer/seine.mostMany", laid_huer_seine_mostMany)], narrowed := true }
def SeineLaterUptoSaid : Prop := seineLaterUptoRow.holds Tryd.pinned (OpenSpec.upto seineLaterSpec)

/-- 'huerlaw03.SeineSaved', WHERE WHAT IT READS IS OF BULK AT MOST 1048576: true; the input reads as it did. -/
def seineSavedUptoRow : OpenClaim := { program := "ytjjfpbjdcmkkhaadoor", sum := "793aea456b751a59e90251876cc7f6845fe40c039e6f6c7713f6ed373ad1769e", func := "huer/huerlaw03.SeineSaved", spec := "seineSaved", unfollowed := true, recurses := true, named := ["huer/seine.mostMany"], plainKeys := false, apart := false, laid := [("huer/seine.mostMany", laid_huer_seine_mostMany)], narrowed := true }
def SeineSavedUptoSaid : Prop := seineSavedUptoRow.holds Tryd.pinned (OpenSpec.upto seineSavedSpec)

/-- 'huerlaw03.SeineWrong', WHERE WHAT IT READS IS OF BULK AT MOST 1048576: true; the input reads as it did. -/
def seineWrongUptoRow : OpenClaim := { program := "ytjjfpbjdcmkkhaadoor", sum := "793aea456b751a59e90251876cc7f6845fe40c039e6f6c7713f6ed373ad1769e", func := "huer/huerlaw03.SeineWrong", spec := "seineWrong", unfollowed := true, recurses := true, named := ["huer/seine.mostMany"], plainKeys := false, apart := false, laid := [("huer/seine.mostMany", laid_huer_seine_mostMany)], narrowed := true }
def SeineWrongUptoSaid : Prop := seineWrongUptoRow.holds Tryd.pinned (OpenSpec.upto seineWrongSpec)

/-- 'huerlaw03.SeinePlain', WHERE WHAT IT READS IS OF BULK AT MOST 1048576: true; the input reads as it did. -/
def seinePlainUptoRow : OpenClaim := { program := "ytjjfpbjdcmkkhaadoor", sum := "793aea456b751a59e90251876cc7f6845fe40c039e6f6c7713f6ed373ad1769e", func := "huer/huerlaw03.SeinePlain", spec := "seinePlain", unfollowed := true, recurses := true, named := ["huer/seine.mostMany"], plainKeys := false, apart := false, laid := [("huer/seine.mostMany", laid_huer_seine_mostMany)], narrowed := true }
def SeinePlainUptoSaid : Prop := seinePlainUptoRow.holds Tryd.pinned (OpenSpec.upto seinePlainSpec)

/-- 'huerlaw03.SeineKnown', WHERE WHAT IT READS IS OF BULK AT MOST 1048576: true; the input reads as it did. -/
def seineKnownUptoRow : OpenClaim := { program := "ytjjfpbjdcmkkhaadoor", sum := "793aea456b751a59e90251876cc7f6845fe40c039e6f6c7713f6ed373ad1769e", func := "huer/huerlaw03.SeineKnown", spec := "seineKnown", unfollowed := true, recurses := true, named := ["huer/seine.mostMany"], plainKeys := false, apart := false, laid := [("huer/seine.mostMany", laid_huer_seine_mostMany)], narrowed := true }
def SeineKnownUptoSaid : Prop := seineKnownUptoRow.holds Tryd.pinned (OpenSpec.upto seineKnownSpec)

end Rows
end Go.Proofs.YtjjfpbjdcmkkhaaDoor
