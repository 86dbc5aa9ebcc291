/-
  NARROWER THAN 'FOR EVERY INPUT', by the rows' own cells (each row's printed sentence says how): TidePlans: laid · TideLefts: laid · TideBests: laid · TideTrue: laid · TideEnds: laid · TideBest: laid · TideMore: laid · TideSpare: laid · TideEasier: laid · TideCalm: laid · TopSounded: laid · TopMended: laid.
  DERIVED. THE GIVEN ROWS OF THIS SEAT. 12 by the template 'for every input the law returns true; each argument reads behind the call as it read before'; 0 by the template 'total and deterministic' (their statements: YtcaeohgbgeadaaaGreatDoorTotals.lean).
  GIVEN WITH THE SEED: the statements are not yours to turn. If you find one false, say at which input.
  Laid BY PROGRAM, IN A SANDBOX (cutbox-rows.mjs): the forced cells as the released guide's own fill.sh prints them over the translation e62367b57f518f35… (all of the seat's roots in one cut). By AI agents, Wed Nov 11 2026. No macro, syntax, notation, axiom, sorry.
-/
import Derived.Test.YtcaeohgbgeadaaaGreatDoorChecked
import GoSem.Claim
import GoSem.ClaimJoined
import GoSem.ClaimMapViews
import Derived.JoinedTies
import Derived.KernelRfl
namespace Go.Proofs.YtcaeohgbgeadaaaGreatDoor
/- THE CELL 'sum', in the pinned program and in every row, IS THE sha256 OF THE DUMP (.gsa) THAT YtcaeohgbgeadaaaGreatDoorProg.lean LOADS. Nothing in Lean hashes anything: it is a label: what it is worth is what the hold of that sum in a sandbox is worth. -/
noncomputable def Tryz.pinned : Pinned := { name := "ytcaeohgbgeadaaagreatdoor", sum := "e62367b57f518f357f8a3bc646526b624f3bdd90a9a7f679411d2ef63cd45e4a", checked := Tryz.checked }
namespace Rows
def none {H : Type} : Left H := { results := [], args := [] }

/- WHAT THE LISTED PACKAGE-LEVEL VARIABLES READ AS WHEN THE CALL BEGINS. Each datum BY PROGRAM (the guide's laid-datum.mjs) off the statement by which the dump's own 'gosem.cut.vars' lays the variable. In a bare row this is a premise. The card (YtcaeohgbgeadaaaGreatDoorCards.lean) ties it to the program's text. -/
def laid_huer_seine_mostMany {H : Type} : DataW H := .agg [.lit (.int .i64 400), .lit (.int .i64 9), .lit (.int .i64 0), .lit (.int .i64 400), .lit (.int .i64 400)]
def laid_huer_turn_noBounds {H : Type} : DataW H := .agg [.lit (.int .i64 1440), .lit (.int .i64 1440), .lit (.int .i64 1440), .lit (.int .i64 1440)]

/-- 'huerlaw04.TidePlans': WHATEVER THE INPUT: true; the input reads as it did. -/
def tidePlansSpec : ChangeSpec := { name := "tidePlans", fn := fun _ => fun
  | [d1, d2] => { results := [.lit (.bool true)], args := [d1, d2] }
  | _ => none }
def tidePlansRow : OpenClaim := { program := "ytcaeohgbgeadaaagreatdoor", sum := "e62367b57f518f357f8a3bc646526b624f3bdd90a9a7f679411d2ef63cd45e4a", func := "huer/huerlaw04.TidePlans", spec := "tidePlans", unfollowed := true, recurses := true, named := ["huer/seine.mostMany"], plainKeys := false, apart := false, laid := [("huer/seine.mostMany", laid_huer_seine_mostMany)] }
def TidePlansSaid : Prop := tidePlansRow.holds Tryz.pinned (OpenSpec.ofChange tidePlansSpec)

/-- ITS FALSE NEIGHBOUR: 'it returns false'. Refute it at one input. -/
def tidePlansWrong : ChangeSpec := { name := "tidePlans", fn := fun _ => fun
  | [d1, d2] => { results := [.lit (.bool false)], args := [d1, d2] }
  | _ => none }
def TidePlansWrongFalsely : Prop := tidePlansRow.holds Tryz.pinned (OpenSpec.ofChange tidePlansWrong)

/-- 'huerlaw04.TideLefts': WHATEVER THE INPUT: true; the input reads as it did. -/
def tideLeftsSpec : ChangeSpec := { name := "tideLefts", fn := fun _ => fun
  | [d1, d2] => { results := [.lit (.bool true)], args := [d1, d2] }
  | _ => none }
def tideLeftsRow : OpenClaim := { program := "ytcaeohgbgeadaaagreatdoor", sum := "e62367b57f518f357f8a3bc646526b624f3bdd90a9a7f679411d2ef63cd45e4a", func := "huer/huerlaw04.TideLefts", spec := "tideLefts", unfollowed := true, recurses := true, named := ["huer/seine.mostMany"], plainKeys := false, apart := false, laid := [("huer/seine.mostMany", laid_huer_seine_mostMany)] }
def TideLeftsSaid : Prop := tideLeftsRow.holds Tryz.pinned (OpenSpec.ofChange tideLeftsSpec)

/-- ITS FALSE NEIGHBOUR: 'it returns false'. Refute it at one input. -/
def tideLeftsWrong : ChangeSpec := { name := "tideLefts", fn := fun _ => fun
  | [d1, d2] => { results := [.lit (.bool false)], args := [d1, d2] }
  | _ => none }
def TideLeftsWrongFalsely : Prop := tideLeftsRow.holds Tryz.pinned (OpenSpec.ofChange tideLeftsWrong)

/-- 'huerlaw04.TideBests': WHATEVER THE INPUT: true; the input reads as it did. -/
def tideBestsSpec : ChangeSpec := { name := "tideBests", fn := fun _ => fun
  | [d] => { results := [.lit (.bool true)], args := [d] }
  | _ => none }
def tideBestsRow : OpenClaim := { program := "ytcaeohgbgeadaaagreatdoor", sum := "e62367b57f518f357f8a3bc646526b624f3bdd90a9a7f679411d2ef63cd45e4a", func := "huer/huerlaw04.TideBests", spec := "tideBests", unfollowed := true, recurses := true, named := ["huer/seine.mostMany"], plainKeys := false, apart := false, laid := [("huer/seine.mostMany", laid_huer_seine_mostMany)] }
def TideBestsSaid : Prop := tideBestsRow.holds Tryz.pinned (OpenSpec.ofChange tideBestsSpec)

/-- ITS FALSE NEIGHBOUR: 'it returns false'. Refute it at one input. -/
def tideBestsWrong : ChangeSpec := { name := "tideBests", fn := fun _ => fun
  | [d] => { results := [.lit (.bool false)], args := [d] }
  | _ => none }
def TideBestsWrongFalsely : Prop := tideBestsRow.holds Tryz.pinned (OpenSpec.ofChange tideBestsWrong)

/-- 'huerlaw04.TideTrue': WHATEVER THE INPUT: true; the input reads as it did. -/
def tideTrueSpec : ChangeSpec := { name := "tideTrue", fn := fun _ => fun
  | [d1, d2, d3] => { results := [.lit (.bool true)], args := [d1, d2, d3] }
  | _ => none }
def tideTrueRow : OpenClaim := { program := "ytcaeohgbgeadaaagreatdoor", sum := "e62367b57f518f357f8a3bc646526b624f3bdd90a9a7f679411d2ef63cd45e4a", func := "huer/huerlaw04.TideTrue", spec := "tideTrue", unfollowed := true, recurses := true, named := ["huer/seine.mostMany"], plainKeys := false, apart := false, laid := [("huer/seine.mostMany", laid_huer_seine_mostMany)] }
def TideTrueSaid : Prop := tideTrueRow.holds Tryz.pinned (OpenSpec.ofChange tideTrueSpec)

/-- ITS FALSE NEIGHBOUR: 'it returns false'. Refute it at one input. -/
def tideTrueWrong : ChangeSpec := { name := "tideTrue", fn := fun _ => fun
  | [d1, d2, d3] => { results := [.lit (.bool false)], args := [d1, d2, d3] }
  | _ => none }
def TideTrueWrongFalsely : Prop := tideTrueRow.holds Tryz.pinned (OpenSpec.ofChange tideTrueWrong)

/-- 'huerlaw04.TideEnds': WHATEVER THE INPUT: true; the input reads as it did. -/
def tideEndsSpec : ChangeSpec := { name := "tideEnds", fn := fun _ => fun
  | [d1, d2] => { results := [.lit (.bool true)], args := [d1, d2] }
  | _ => none }
def tideEndsRow : OpenClaim := { program := "ytcaeohgbgeadaaagreatdoor", sum := "e62367b57f518f357f8a3bc646526b624f3bdd90a9a7f679411d2ef63cd45e4a", func := "huer/huerlaw04.TideEnds", spec := "tideEnds", unfollowed := true, recurses := true, named := ["huer/seine.mostMany"], plainKeys := false, apart := false, laid := [("huer/seine.mostMany", laid_huer_seine_mostMany)] }
def TideEndsSaid : Prop := tideEndsRow.holds Tryz.pinned (OpenSpec.ofChange tideEndsSpec)

/-- ITS FALSE NEIGHBOUR: 'it returns false'. Refute it at one input. -/
def tideEndsWrong : ChangeSpec := { name := "tideEnds", fn := fun _ => fun
  | [d1, d2] => { results := [.lit (.bool false)], args := [d1, d2] }
  | _ => none }
def TideEndsWrongFalsely : Prop := tideEndsRow.holds Tryz.pinned (OpenSpec.ofChange tideEndsWrong)

/-- 'huerlaw04.TideBest': WHATEVER THE INPUT: true; the input reads as it did. -/
def tideBestSpec : ChangeSpec := { name := "tideBest", fn := fun _ => fun
  | [d1, d2] => { results := [.lit (.bool true)], args := [d1, d2] }
  | _ => none }
def tideBestRow : OpenClaim := { program := "ytcaeohgbgeadaaagreatdoor", sum := "e62367b57f518f357f8a3bc646526b624f3bdd90a9a7f679411d2ef63cd45e4a", func := "huer/huerlaw04.TideBest", spec := "tideBest", unfollowed := true, recurses := true, named := ["huer/seine.mostMany"], plainKeys := false, apart := false, laid := [("huer/seine.mostMany", laid_huer_seine_mostMany)] }
def TideBestSaid : Prop := tideBestRow.holds Tryz.pinned (OpenSpec.ofChange tideBestSpec)

/-- ITS FALSE NEIGHBOUR: 'it returns false'. Refute it at one input. -/
def tideBestWrong : ChangeSpec := { name := "tideBest", fn := fun _ => fun
  | [d1, d2] => { results := [.lit (.bool false)], args := [d1, d2] }
  | _ => none }
def TideBestWrongFalsely : Prop := tideBestRow.holds Tryz.pinned (OpenSpec.ofChange tideBestWrong)

/-- 'huerlaw04.TideMore': WHATEVER THE INPUT: true; the input reads as it did. -/
def tideMoreSpec : ChangeSpec := { name := "tideMore", fn := fun _ => fun
  | [d1, d2, d3] => { results := [.lit (.bool true)], args := [d1, d2, d3] }
  | _ => none }
def tideMoreRow : OpenClaim := { program := "ytcaeohgbgeadaaagreatdoor", sum := "e62367b57f518f357f8a3bc646526b624f3bdd90a9a7f679411d2ef63cd45e4a", func := "huer/huerlaw04.TideMore", spec := "tideMore", unfollowed := true, recurses := true, named := ["huer/seine.mostMany"], plainKeys := false, apart := false, laid := [("huer/seine.mostMany", laid_huer_seine_mostMany)] }
def TideMoreSaid : Prop := tideMoreRow.holds Tryz.pinned (OpenSpec.ofChange tideMoreSpec)

/-- ITS FALSE NEIGHBOUR: 'it returns false'. Refute it at one input. -/
def tideMoreWrong : ChangeSpec := { name := "tideMore", fn := fun _ => fun
  | [d1, d2, d3] => { results := [.lit (.bool false)], args := [d1, d2, d3] }
  | _ => none }
def TideMoreWrongFalsely : Prop := tideMoreRow.holds Tryz.pinned (OpenSpec.ofChange tideMoreWrong)

/-- 'huerlaw04.TideSpare': WHATEVER THE INPUT: true; the input reads as it did. -/
def tideSpareSpec : ChangeSpec := { name := "tideSpare", fn := fun _ => fun
  | [d1, d2] => { results := [.lit (.bool true)], args := [d1, d2] }
  | _ => none }
def tideSpareRow : OpenClaim := { program := "ytcaeohgbgeadaaagreatdoor", sum := "e62367b57f518f357f8a3bc646526b624f3bdd90a9a7f679411d2ef63cd45e4a", func := "huer/huerlaw04.TideSpare", spec := "tideSpare", unfollowed := true, recurses := true, named := ["huer/seine.mostMany"], plainKeys := false, apart := false, laid := [("huer/seine.mostMany", laid_huer_seine_mostMany)] }
def TideSpareSaid : Prop := tideSpareRow.holds Tryz.pinned (OpenSpec.ofChange tideSpareSpec)

/-- ITS FALSE NEIGHBOUR: 'it returns false'. Refute it at one input. -/
def tideSpareWrong : ChangeSpec := { name := "tideSpare", fn := fun _ => fun
  | [d1, d2] => { results := [.lit (.bool false)], args := [d1, d2] }
  | _ => none }
def TideSpareWrongFalsely : Prop := tideSpareRow.holds Tryz.pinned (OpenSpec.ofChange tideSpareWrong)

/-- 'huerlaw04.TideEasier': WHATEVER THE INPUT: true; the input reads as it did. -/
def tideEasierSpec : ChangeSpec := { name := "tideEasier", fn := fun _ => fun
  | [d1, d2] => { results := [.lit (.bool true)], args := [d1, d2] }
  | _ => none }
def tideEasierRow : OpenClaim := { program := "ytcaeohgbgeadaaagreatdoor", sum := "e62367b57f518f357f8a3bc646526b624f3bdd90a9a7f679411d2ef63cd45e4a", func := "huer/huerlaw04.TideEasier", spec := "tideEasier", unfollowed := true, recurses := true, named := ["huer/seine.mostMany"], plainKeys := false, apart := false, laid := [("huer/seine.mostMany", laid_huer_seine_mostMany)] }
def TideEasierSaid : Prop := tideEasierRow.holds Tryz.pinned (OpenSpec.ofChange tideEasierSpec)

/-- ITS FALSE NEIGHBOUR: 'it returns false'. Refute it at one input. -/
def tideEasierWrong : ChangeSpec := { name := "tideEasier", fn := fun _ => fun
  | [d1, d2] => { results := [.lit (.bool false)], args := [d1, d2] }
  | _ => none }
def TideEasierWrongFalsely : Prop := tideEasierRow.holds Tryz.pinned (OpenSpec.ofChange tideEasierWrong)

/-- 'huerlaw04.TideCalm': WHATEVER THE INPUT: true; the input reads as it did. -/
def tideCalmSpec : ChangeSpec := { name := "tideCalm", fn := fun _ => fun
  | [d1, d2, d3] => { results := [.lit (.bool true)], args := [d1, d2, d3] }
  | _ => none }
def tideCalmRow : OpenClaim := { program := "ytcaeohgbgeadaaagreatdoor", sum := "e62367b57f518f357f8a3bc646526b624f3bdd90a9a7f679411d2ef63cd45e4a", func := "huer/huerlaw04.TideCalm", spec := "tideCalm", unfollowed := true, recurses := true, named := ["huer/seine.mostMany"], plainKeys := false, apart := false, laid := [("huer/seine.mostMany", laid_huer_seine_mostMany)] }
def TideCalmSaid : Prop := tideCalmRow.holds Tryz.pinned (OpenSpec.ofChange tideCalmSpec)

/-- ITS FALSE NEIGHBOUR: 'it returns false'. Refute it at one input. -/
def tideCalmWrong : ChangeSpec := { name := "tideCalm", fn := fun _ => fun
  | [d1, d2, d3] => { results := [.lit (.bool false)], args := [d1, d2, d3] }
  | _ => none }
def TideCalmWrongFalsely : Prop := tideCalmRow.holds Tryz.pinned (OpenSpec.ofChange tideCalmWrong)

/-- 'huertop.TopSounded': WHATEVER THE INPUT: true; the input reads as it did. -/
def topSoundedSpec : ChangeSpec := { name := "topSounded", fn := fun _ => fun
  | [d1, d2] => { results := [.lit (.bool true)], args := [d1, d2] }
  | _ => none }
def topSoundedRow : OpenClaim := { program := "ytcaeohgbgeadaaagreatdoor", sum := "e62367b57f518f357f8a3bc646526b624f3bdd90a9a7f679411d2ef63cd45e4a", func := "huer/huertop.TopSounded", spec := "topSounded", unfollowed := true, recurses := true, named := ["huer/seine.mostMany", "huer/turn.noBounds"], plainKeys := false, apart := false, laid := [("huer/seine.mostMany", laid_huer_seine_mostMany), ("huer/turn.noBounds", laid_huer_turn_noBounds)] }
def TopSoundedSaid : Prop := topSoundedRow.holds Tryz.pinned (OpenSpec.ofChange topSoundedSpec)

/-- ITS FALSE NEIGHBOUR: 'it returns false'. Refute it at one input. -/
def topSoundedWrong : ChangeSpec := { name := "topSounded", fn := fun _ => fun
  | [d1, d2] => { results := [.lit (.bool false)], args := [d1, d2] }
  | _ => none }
def TopSoundedWrongFalsely : Prop := topSoundedRow.holds Tryz.pinned (OpenSpec.ofChange topSoundedWrong)

/-- 'huertop.TopMended': WHATEVER THE INPUT: true; the input reads as it did. -/
def topMendedSpec : ChangeSpec := { name := "topMended", fn := fun _ => fun
  | [d1, d2] => { results := [.lit (.bool true)], args := [d1, d2] }
  | _ => none }
def topMendedRow : OpenClaim := { program := "ytcaeohgbgeadaaagreatdoor", sum := "e62367b57f518f357f8a3bc646526b624f3bdd90a9a7f679411d2ef63cd45e4a", func := "huer/huertop.TopMended", spec := "topMended", unfollowed := true, recurses := true, named := ["huer/seine.mostMany", "huer/turn.noBounds"], plainKeys := false, apart := false, laid := [("huer/seine.mostMany", laid_huer_seine_mostMany), ("huer/turn.noBounds", laid_huer_turn_noBounds)] }
def TopMendedSaid : Prop := topMendedRow.holds Tryz.pinned (OpenSpec.ofChange topMendedSpec)

/-- ITS FALSE NEIGHBOUR: 'it returns false'. Refute it at one input. -/
def topMendedWrong : ChangeSpec := { name := "topMended", fn := fun _ => fun
  | [d1, d2] => { results := [.lit (.bool false)], args := [d1, d2] }
  | _ => none }
def TopMendedWrongFalsely : Prop := topMendedRow.holds Tryz.pinned (OpenSpec.ofChange topMendedWrong)

/- THE SECOND FORM. 'bulk': how many values and letters a reading holds, each counted each time it is reached (what is shared counts as often as it is met; a slice's spare places count too). A statement '..UptoSaid' is the law's where the arguments, and the package variables that the reading takes, are together of bulk at most 1048576: NARROWER than '..Said'. Prove '..Said' where nothing that the law and all that it calls make is longer than what came in: it says more and counts as full. Else prove '..UptoSaid'. A law counts once. -/
mutual
def uptoBulk {H : Type} : DataW H → Nat
  | .lit (.string bytes) => bytes.length + 1
  | .lit _ => 1
  | .nil => 1
  | .ptr d => uptoBulk d + 1
  | .slice elems spare => uptoBulkAll elems + uptoBulkAll spare + 1
  | .agg parts => uptoBulkAll parts + 1
  | .iface _ d => uptoBulk d + 1
  | .map entries => uptoBulkEntries entries + 1
  | .held _ => 1
def uptoBulkAll {H : Type} : List (DataW H) → Nat
  | [] => 0
  | d :: r => uptoBulk d + uptoBulkAll r
def uptoBulkEntries {H : Type} : List (Lit × DataW H) → Nat
  | [] => 0
  | x :: r => uptoBulkEntry x + uptoBulkEntries r
def uptoBulkEntry {H : Type} : Lit × DataW H → Nat
  | (.string bytes, d) => bytes.length + uptoBulk d + 1
  | (_, d) => uptoBulk d + 1
 end
def uptoSmall : (H : Type) → List (DataW H) → Bool := fun _ ds => decide (uptoBulkAll ds ≤ 1048576)
def OpenSpec.upto (s : _root_.Go.ChangeSpec) : _root_.Go.OpenSpec := { _root_.Go.OpenSpec.ofChange s with cond := some uptoSmall }

/-- 'huerlaw04.TidePlans', WHERE WHAT IT READS IS OF BULK AT MOST 1048576: true; the input reads as it did. -/
def tidePlansUptoRow : OpenClaim := { program := "ytcaeohgbgeadaaagreatdoor", sum := "e62367b57f518f357f8a3bc646526b624f3bdd90a9a7f679411d2ef63cd45e4a", func := "huer/huerlaw04.TidePlans", spec := "tidePlans", unfollowed := true, recurses := true, named := ["huer/seine.mostMany"], plainKeys := false, apart := false, laid := [("huer/seine.mostMany", laid_huer_seine_mostMany)], narrowed := true }
def TidePlansUptoSaid : Prop := tidePlansUptoRow.holds Tryz.pinned (OpenSpec.upto tidePlansSpec)

/-- 'huerlaw04.TideLefts', WHERE WHAT IT READS IS OF BULK AT MOST 1048576: true; the input reads as it did. -/
def tideLeftsUptoRow : OpenClaim := { program := "ytcaeohgbgeadaaagreatdoor", sum := "e62367b57f518f357f8a3bc646526b624f3bdd90a9a7f679411d2ef63cd45e4a", func := "huer/huerlaw04.TideLefts", spec := "tideLefts", unfollowed := true, recurses := true, named := ["huer/seine.mostMany"], plainKeys := false, apart := false, laid := [("huer/seine.mostMany", laid_huer_seine_mostMany)], narrowed := true }
def TideLeftsUptoSaid : Prop := tideLeftsUptoRow.holds Tryz.pinned (OpenSpec.upto tideLeftsSpec)

/-- 'huerlaw04.TideBests', WHERE WHAT IT READS IS OF BULK AT MOST 1048576: true; the input reads as it did. -/
def tideBestsUptoRow : OpenClaim := { program := "ytcaeohgbgeadaaagreatdoor", sum := "e62367b57f518f357f8a3bc646526b624f3bdd90a9a7f679411d2ef63cd45e4a", func := "huer/huerlaw04.TideBests", spec := "tideBests", unfollowed := true, recurses := true, named := ["huer/seine.mostMany"], plainKeys := false, apart := false, laid := [("huer/seine.mostMany", laid_huer_seine_mostMany)], narrowed := true }
def TideBestsUptoSaid : Prop := tideBestsUptoRow.holds Tryz.pinned (OpenSpec.upto tideBestsSpec)

/-- 'huerlaw04.TideTrue', WHERE WHAT IT READS IS OF BULK AT MOST 1048576: true; the input reads as it did. -/
def tideTrueUptoRow : OpenClaim := { program := "ytcaeohgbgeadaaagreatdoor", sum := "e62367b57f518f357f8a3bc646526b624f3bdd90a9a7f679411d2ef63cd45e4a", func := "huer/huerlaw04.TideTrue", spec := "tideTrue", unfollowed := true, recurses := true, named := ["huer/seine.mostMany"], plainKeys := false, apart := false, laid := [("huer/seine.mostMany", laid_huer_seine_mostMany)], narrowed := true }
def TideTrueUptoSaid : Prop := tideTrueUptoRow.holds Tryz.pinned (OpenSpec.upto tideTrueSpec)

/-- 'huerlaw04.TideEnds', WHERE WHAT IT READS IS OF BULK AT MOST 1048576: true; the input reads as it did. -/
def tideEndsUptoRow : OpenClaim := { program := "ytcaeohgbgeadaaagreatdoor", sum := "e62367b57f518f357f8a3bc646526b624f3bdd90a9a7f679411d2ef63cd45e4a", func := "huer/huerlaw04.TideEnds", spec := "tideEnds", unfollowed := true, recurses := true, named := ["huer/seine.mostMany"], plainKeys := false, apart := false, laid := [("huer/seine.mostMany", laid_huer_seine_mostMany)], narrowed := true }
def TideEndsUptoSaid : Prop := tideEndsUptoRow.holds Tryz.pinned (OpenSpec.upto tideEndsSpec)

/-- 'huerlaw04.TideBest', WHERE WHAT IT READS IS OF BULK AT MOST 1048576: true; the input reads as it did. -/
def tideBestUptoRow : OpenClaim := { program := "ytcaeohgbgeadaaagreatdoor", sum := "e62367b57f518f357f8a3bc646526b624f3bdd90a9a7f679411d2ef63cd45e4a", func := "huer/huerlaw04.TideBest", spec := "tideBest", unfollowed := true, recurses := true, named := ["huer/seine.mostMany"], plainKeys := false, apart := false, laid := [("huer/seine.mostMany", laid_huer_seine_mostMany)], narrowed := true }
def TideBestUptoSaid : Prop := tideBestUptoRow.holds Tryz.pinned (OpenSpec.upto tideBestSpec)

/-- 'huerlaw04.TideMore', WHERE WHAT IT READS IS OF BULK AT MOST 1048576: true; the input reads as it did. -/
def tideMoreUptoRow : OpenClaim := { program := "ytcaeohgbgeadaaagreatdoor", sum := "e62367b57f518f357f8a3bc646526b624f3bdd90a9a7f679411d2ef63cd45e4a", func := "huer/huerlaw04.TideMore", spec := "tideMore", unfollowed := true, recurses := true, named := ["huer/seine.mostMany"], plainKeys := false, apart := false, laid := [("huer/seine.mostMany", laid_huer_seine_mostMany)], narrowed := true }
def TideMoreUptoSaid : Prop := tideMoreUptoRow.holds Tryz.pinned (OpenSpec.upto tideMoreSpec)

/-- 'huerlaw04.TideSpare', WHERE WHAT IT READS IS OF BULK AT MOST 1048576: true; the input reads as it did. -/
def tideSpareUptoRow : OpenClaim := { program := "ytcaeohgbgeadaaagreatdoor", sum := "e62367b57f518f357f8a3bc646526b624f3bdd90a9a7f679411d2ef63cd45e4a", func := "huer/huerlaw04.TideSpare", spec := "tideSpare", unfollowed := true, recurses := true, named := ["huer/seine.mostMany"], plainKeys := false, apart := false, laid := [("huer/seine.mostMany", laid_huer_seine_mostMany)], narrowed := true }
def TideSpareUptoSaid : Prop := tideSpareUptoRow.holds Tryz.pinned (OpenSpec.upto tideSpareSpec)

/-- 'huerlaw04.TideEasier', WHERE WHAT IT READS IS OF BULK AT MOST 1048576: true; the input reads as it did. -/
def tideEasierUptoRow : OpenClaim := { program := "ytcaeohgbgeadaaagreatdoor", sum := "e62367b57f518f357f8a3bc646526b624f3bdd90a9a7f679411d2ef63cd45e4a", func := "huer/huerlaw04.TideEasier", spec := "tideEasier", unfollowed := true, recurses := true, named := ["huer/seine.mostMany"], plainKeys := false, apart := false, laid := [("huer/seine.mostMany", laid_huer_seine_mostMany)], narrowed := true }
def TideEasierUptoSaid : Prop := tideEasierUptoRow.holds Tryz.pinned (OpenSpec.upto tideEasierSpec)

/-- 'huerlaw04.TideCalm', WHERE WHAT IT READS IS OF BULK AT MOST 1048576: true; the input reads as it did. -/
def tideCalmUptoRow : OpenClaim := { program := "ytcaeohgbgeadaaagreatdoor", sum := "e62367b57f518f357f8a3bc646526b624f3bdd90a9a7f679411d2ef63cd45e4a", func := "huer/huerlaw04.TideCalm", spec := "tideCalm", unfollowed := true, recurses := true, named := ["huer/seine.mostMany"], plainKeys := false, apart := false, laid := [("huer/seine.mostMany", laid_huer_seine_mostMany)], narrowed := true }
def TideCalmUptoSaid : Prop := tideCalmUptoRow.holds Tryz.pinned (OpenSpec.upto tideCalmSpec)

/-- 'huertop.TopSounded', WHERE WHAT IT READS IS OF BULK AT MOST 1048576: true; the input reads as it did. -/
def topSoundedUptoRow : OpenClaim := { program := "ytcaeohgbgeadaaagreatdoor", sum := "e62367b57f518f357f8a3bc646526b624f3bdd90a9a7f679411d2ef63cd45e4a", func := "huer/huertop.TopSounded", spec := "topSounded", unfollowed := true, recurses := true, named := ["huer/seine.mostMany", "huer/turn.noBounds"], plainKeys := false, apart := false, laid := [("huer/seine.mostMany", laid_huer_seine_mostMany), ("huer/turn.noBounds", laid_huer_turn_noBounds)], narrowed := true }
def TopSoundedUptoSaid : Prop := topSoundedUptoRow.holds Tryz.pinned (OpenSpec.upto topSoundedSpec)

/-- 'huertop.TopMended', WHERE WHAT IT READS IS OF BULK AT MOST 1048576: true; the input reads as it did. -/
def topMendedUptoRow : OpenClaim := { program := "ytcaeohgbgeadaaagreatdoor", sum := "e62367b57f518f357f8a3bc646526b624f3bdd90a9a7f679411d2ef63cd45e4a", func := "huer/huertop.TopMended", spec := "topMended", unfollowed := true, recurses := true, named := ["huer/seine.mostMany", "huer/turn.noBounds"], plainKeys := false, apart := false, laid := [("huer/seine.mostMany", laid_huer_seine_mostMany), ("huer/turn.noBounds", laid_huer_turn_noBounds)], narrowed := true }
def TopMendedUptoSaid : Prop := topMendedUptoRow.holds Tryz.pinned (OpenSpec.upto topMendedSpec)

end Rows
end Go.Proofs.YtcaeohgbgeadaaaGreatDoor
