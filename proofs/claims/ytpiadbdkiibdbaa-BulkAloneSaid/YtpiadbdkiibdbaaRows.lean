/-
  No cell of these rows narrows 'for every input' (looked for: loops, veiled, ifaces, maps, wideKeys, modest, calm, conditions, laid).
  DERIVED. THE GIVEN ROWS OF THIS SEAT. 11 by the template 'for every input the law returns true; each argument reads behind the call as it read before'; 0 by the template 'total and deterministic' (their statements: YtpiadbdkiibdbaaTotals.lean).
  GIVEN WITH THE SEED: the statements are not yours to turn. If you find one false, say at which input.
  Laid BY PROGRAM, IN A SANDBOX (cutbox-rows.mjs): the forced cells as the released guide's own fill.sh prints them over the translation edd19cc0b653df18… (all of the seat's roots in one cut). By AI agents, Wed Nov 11 2026. No macro, syntax, notation, axiom, sorry.
-/
import Derived.Test.YtpiadbdkiibdbaaChecked
import GoSem.Claim
import GoSem.ClaimJoined
import GoSem.ClaimMapViews
import Derived.JoinedTies
import Derived.KernelRfl
namespace Go.Proofs.Ytpiadbdkiibdbaa
/- THE CELL 'sum', in the pinned program and in every row, IS THE sha256 OF THE DUMP (.gsa) THAT YtpiadbdkiibdbaaProg.lean LOADS. Nothing in Lean hashes anything: it is a label: what it is worth is what the hold of that sum in a sandbox is worth. -/
noncomputable def Try.pinned : Pinned := { name := "ytpiadbdkiibdbaa", sum := "edd19cc0b653df1837af2062e02cda2c1019d9cfc5c3c24b11492c31437e9e85", checked := Try.checked }
namespace Rows
def none {H : Type} : Left H := { results := [], args := [] }

/-- 'huerlaw05.BulkMeasures': WHATEVER THE INPUT: true; the input reads as it did. -/
def bulkMeasuresSpec : ChangeSpec := { name := "bulkMeasures", fn := fun _ => fun
  | [d1, d2] => { results := [.lit (.bool true)], args := [d1, d2] }
  | _ => none }
def bulkMeasuresRow : OpenClaim := { program := "ytpiadbdkiibdbaa", sum := "edd19cc0b653df1837af2062e02cda2c1019d9cfc5c3c24b11492c31437e9e85", func := "huer/huerlaw05.BulkMeasures", spec := "bulkMeasures", unfollowed := true, recurses := true, plainKeys := false, apart := false }
def BulkMeasuresSaid : Prop := bulkMeasuresRow.holds Try.pinned (OpenSpec.ofChange bulkMeasuresSpec)

/-- ITS FALSE NEIGHBOUR: 'it returns false'. Refute it at one input. -/
def bulkMeasuresWrong : ChangeSpec := { name := "bulkMeasures", fn := fun _ => fun
  | [d1, d2] => { results := [.lit (.bool false)], args := [d1, d2] }
  | _ => none }
def BulkMeasuresWrongFalsely : Prop := bulkMeasuresRow.holds Try.pinned (OpenSpec.ofChange bulkMeasuresWrong)

/-- 'huerlaw05.BulkTells': WHATEVER THE INPUT: true; the input reads as it did. -/
def bulkTellsSpec : ChangeSpec := { name := "bulkTells", fn := fun _ => fun
  | [d1, d2] => { results := [.lit (.bool true)], args := [d1, d2] }
  | _ => none }
def bulkTellsRow : OpenClaim := { program := "ytpiadbdkiibdbaa", sum := "edd19cc0b653df1837af2062e02cda2c1019d9cfc5c3c24b11492c31437e9e85", func := "huer/huerlaw05.BulkTells", spec := "bulkTells", unfollowed := true, recurses := true, plainKeys := false, apart := false }
def BulkTellsSaid : Prop := bulkTellsRow.holds Try.pinned (OpenSpec.ofChange bulkTellsSpec)

/-- ITS FALSE NEIGHBOUR: 'it returns false'. Refute it at one input. -/
def bulkTellsWrong : ChangeSpec := { name := "bulkTells", fn := fun _ => fun
  | [d1, d2] => { results := [.lit (.bool false)], args := [d1, d2] }
  | _ => none }
def BulkTellsWrongFalsely : Prop := bulkTellsRow.holds Try.pinned (OpenSpec.ofChange bulkTellsWrong)

/-- 'huerlaw05.BulkWeighs': WHATEVER THE INPUT: true; the input reads as it did. -/
def bulkWeighsSpec : ChangeSpec := { name := "bulkWeighs", fn := fun _ => fun
  | [d] => { results := [.lit (.bool true)], args := [d] }
  | _ => none }
def bulkWeighsRow : OpenClaim := { program := "ytpiadbdkiibdbaa", sum := "edd19cc0b653df1837af2062e02cda2c1019d9cfc5c3c24b11492c31437e9e85", func := "huer/huerlaw05.BulkWeighs", spec := "bulkWeighs", unfollowed := true, recurses := true, plainKeys := false, apart := false }
def BulkWeighsSaid : Prop := bulkWeighsRow.holds Try.pinned (OpenSpec.ofChange bulkWeighsSpec)

/-- ITS FALSE NEIGHBOUR: 'it returns false'. Refute it at one input. -/
def bulkWeighsWrong : ChangeSpec := { name := "bulkWeighs", fn := fun _ => fun
  | [d] => { results := [.lit (.bool false)], args := [d] }
  | _ => none }
def BulkWeighsWrongFalsely : Prop := bulkWeighsRow.holds Try.pinned (OpenSpec.ofChange bulkWeighsWrong)

/-- 'huerlaw05.BulkTrue': WHATEVER THE INPUT: true; the input reads as it did. -/
def bulkTrueSpec : ChangeSpec := { name := "bulkTrue", fn := fun _ => fun
  | [d1, d2] => { results := [.lit (.bool true)], args := [d1, d2] }
  | _ => none }
def bulkTrueRow : OpenClaim := { program := "ytpiadbdkiibdbaa", sum := "edd19cc0b653df1837af2062e02cda2c1019d9cfc5c3c24b11492c31437e9e85", func := "huer/huerlaw05.BulkTrue", spec := "bulkTrue", unfollowed := true, recurses := true, plainKeys := false, apart := false }
def BulkTrueSaid : Prop := bulkTrueRow.holds Try.pinned (OpenSpec.ofChange bulkTrueSpec)

/-- ITS FALSE NEIGHBOUR: 'it returns false'. Refute it at one input. -/
def bulkTrueWrong : ChangeSpec := { name := "bulkTrue", fn := fun _ => fun
  | [d1, d2] => { results := [.lit (.bool false)], args := [d1, d2] }
  | _ => none }
def BulkTrueWrongFalsely : Prop := bulkTrueRow.holds Try.pinned (OpenSpec.ofChange bulkTrueWrong)

/-- 'huerlaw05.BulkAlone': WHATEVER THE INPUT: true; the input reads as it did. -/
def bulkAloneSpec : ChangeSpec := { name := "bulkAlone", fn := fun _ => fun
  | [d1, d2] => { results := [.lit (.bool true)], args := [d1, d2] }
  | _ => none }
def bulkAloneRow : OpenClaim := { program := "ytpiadbdkiibdbaa", sum := "edd19cc0b653df1837af2062e02cda2c1019d9cfc5c3c24b11492c31437e9e85", func := "huer/huerlaw05.BulkAlone", spec := "bulkAlone", unfollowed := true, recurses := true, plainKeys := false, apart := false }
def BulkAloneSaid : Prop := bulkAloneRow.holds Try.pinned (OpenSpec.ofChange bulkAloneSpec)

/-- ITS FALSE NEIGHBOUR: 'it returns false'. Refute it at one input. -/
def bulkAloneWrong : ChangeSpec := { name := "bulkAlone", fn := fun _ => fun
  | [d1, d2] => { results := [.lit (.bool false)], args := [d1, d2] }
  | _ => none }
def BulkAloneWrongFalsely : Prop := bulkAloneRow.holds Try.pinned (OpenSpec.ofChange bulkAloneWrong)

/-- 'huerlaw05.BulkMore': WHATEVER THE INPUT: true; the input reads as it did. -/
def bulkMoreSpec : ChangeSpec := { name := "bulkMore", fn := fun _ => fun
  | [d1, d2] => { results := [.lit (.bool true)], args := [d1, d2] }
  | _ => none }
def bulkMoreRow : OpenClaim := { program := "ytpiadbdkiibdbaa", sum := "edd19cc0b653df1837af2062e02cda2c1019d9cfc5c3c24b11492c31437e9e85", func := "huer/huerlaw05.BulkMore", spec := "bulkMore", unfollowed := true, recurses := true, plainKeys := false, apart := false }
def BulkMoreSaid : Prop := bulkMoreRow.holds Try.pinned (OpenSpec.ofChange bulkMoreSpec)

/-- ITS FALSE NEIGHBOUR: 'it returns false'. Refute it at one input. -/
def bulkMoreWrong : ChangeSpec := { name := "bulkMore", fn := fun _ => fun
  | [d1, d2] => { results := [.lit (.bool false)], args := [d1, d2] }
  | _ => none }
def BulkMoreWrongFalsely : Prop := bulkMoreRow.holds Try.pinned (OpenSpec.ofChange bulkMoreWrong)

/-- 'huerlaw05.BulkWeigh': WHATEVER THE INPUT: true; the input reads as it did. -/
def bulkWeighSpec : ChangeSpec := { name := "bulkWeigh", fn := fun _ => fun
  | [d1, d2] => { results := [.lit (.bool true)], args := [d1, d2] }
  | _ => none }
def bulkWeighRow : OpenClaim := { program := "ytpiadbdkiibdbaa", sum := "edd19cc0b653df1837af2062e02cda2c1019d9cfc5c3c24b11492c31437e9e85", func := "huer/huerlaw05.BulkWeigh", spec := "bulkWeigh", unfollowed := true, recurses := true, plainKeys := false, apart := false }
def BulkWeighSaid : Prop := bulkWeighRow.holds Try.pinned (OpenSpec.ofChange bulkWeighSpec)

/-- ITS FALSE NEIGHBOUR: 'it returns false'. Refute it at one input. -/
def bulkWeighWrong : ChangeSpec := { name := "bulkWeigh", fn := fun _ => fun
  | [d1, d2] => { results := [.lit (.bool false)], args := [d1, d2] }
  | _ => none }
def BulkWeighWrongFalsely : Prop := bulkWeighRow.holds Try.pinned (OpenSpec.ofChange bulkWeighWrong)

/-- 'huerlaw05.BulkWrong': WHATEVER THE INPUT: true; the input reads as it did. -/
def bulkWrongSpec : ChangeSpec := { name := "bulkWrong", fn := fun _ => fun
  | [d1, d2] => { results := [.lit (.bool true)], args := [d1, d2] }
  | _ => none }
def bulkWrongRow : OpenClaim := { program := "ytpiadbdkiibdbaa", sum := "edd19cc0b653df1837af2062e02cda2c1019d9cfc5c3c24b11492c31437e9e85", func := "huer/huerlaw05.BulkWrong", spec := "bulkWrong", unfollowed := true, recurses := true, plainKeys := false, apart := false }
def BulkWrongSaid : Prop := bulkWrongRow.holds Try.pinned (OpenSpec.ofChange bulkWrongSpec)

/-- ITS FALSE NEIGHBOUR: 'it returns false'. Refute it at one input. -/
def bulkWrongWrong : ChangeSpec := { name := "bulkWrong", fn := fun _ => fun
  | [d1, d2] => { results := [.lit (.bool false)], args := [d1, d2] }
  | _ => none }
def BulkWrongWrongFalsely : Prop := bulkWrongRow.holds Try.pinned (OpenSpec.ofChange bulkWrongWrong)

/-- 'huerlaw05.BulkEnough': WHATEVER THE INPUT: true; the input reads as it did. -/
def bulkEnoughSpec : ChangeSpec := { name := "bulkEnough", fn := fun _ => fun
  | [d] => { results := [.lit (.bool true)], args := [d] }
  | _ => none }
def bulkEnoughRow : OpenClaim := { program := "ytpiadbdkiibdbaa", sum := "edd19cc0b653df1837af2062e02cda2c1019d9cfc5c3c24b11492c31437e9e85", func := "huer/huerlaw05.BulkEnough", spec := "bulkEnough", unfollowed := true, recurses := true, plainKeys := false, apart := false }
def BulkEnoughSaid : Prop := bulkEnoughRow.holds Try.pinned (OpenSpec.ofChange bulkEnoughSpec)

/-- ITS FALSE NEIGHBOUR: 'it returns false'. Refute it at one input. -/
def bulkEnoughWrong : ChangeSpec := { name := "bulkEnough", fn := fun _ => fun
  | [d] => { results := [.lit (.bool false)], args := [d] }
  | _ => none }
def BulkEnoughWrongFalsely : Prop := bulkEnoughRow.holds Try.pinned (OpenSpec.ofChange bulkEnoughWrong)

/-- 'huerlaw05.BulkNothing': WHATEVER THE INPUT: true; the input reads as it did. -/
def bulkNothingSpec : ChangeSpec := { name := "bulkNothing", fn := fun _ => fun
  | [d1, d2] => { results := [.lit (.bool true)], args := [d1, d2] }
  | _ => none }
def bulkNothingRow : OpenClaim := { program := "ytpiadbdkiibdbaa", sum := "edd19cc0b653df1837af2062e02cda2c1019d9cfc5c3c24b11492c31437e9e85", func := "huer/huerlaw05.BulkNothing", spec := "bulkNothing", unfollowed := true, recurses := true, plainKeys := false, apart := false }
def BulkNothingSaid : Prop := bulkNothingRow.holds Try.pinned (OpenSpec.ofChange bulkNothingSpec)

/-- ITS FALSE NEIGHBOUR: 'it returns false'. Refute it at one input. -/
def bulkNothingWrong : ChangeSpec := { name := "bulkNothing", fn := fun _ => fun
  | [d1, d2] => { results := [.lit (.bool false)], args := [d1, d2] }
  | _ => none }
def BulkNothingWrongFalsely : Prop := bulkNothingRow.holds Try.pinned (OpenSpec.ofChange bulkNothingWrong)

/-- 'huerlaw05.BulkKnown': WHATEVER THE INPUT: true; the input reads as it did. -/
def bulkKnownSpec : ChangeSpec := { name := "bulkKnown", fn := fun _ => fun
  | [] => { results := [.lit (.bool true)], args := [] }
  | _ => none }
def bulkKnownRow : OpenClaim := { program := "ytpiadbdkiibdbaa", sum := "edd19cc0b653df1837af2062e02cda2c1019d9cfc5c3c24b11492c31437e9e85", func := "huer/huerlaw05.BulkKnown", spec := "bulkKnown", unfollowed := true, recurses := true, plainKeys := false, apart := false }
def BulkKnownSaid : Prop := bulkKnownRow.holds Try.pinned (OpenSpec.ofChange bulkKnownSpec)

/-- ITS FALSE NEIGHBOUR: 'it returns false'. Refute it at one input. -/
def bulkKnownWrong : ChangeSpec := { name := "bulkKnown", fn := fun _ => fun
  | [] => { results := [.lit (.bool false)], args := [] }
  | _ => none }
def BulkKnownWrongFalsely : Prop := bulkKnownRow.holds Try.pinned (OpenSpec.ofChange bulkKnownWrong)

/- THE SECOND FORM. 'bulk': how many values and letters a reading holds, each counted each time it is reached (what is shared counts as often as it is met; a slice's spare places count too). A statement '..UptoSaid' is the law's where the arguments, and the package variables that the reading takes, are together of bulk at most 1048576: NARROWER than '..Said'. Prove '..Said' where nothing that the law and all that it calls make is longer than what came in: it says more and counts as full. Else prove '..UptoSaid'. A law counts once. -/
mutual
def uptoBulk {H : Type} : DataW H → Nat
  | .lit (.string bytes) => bytes.length + 1
  | .lit _ => 1
  | .nil => 1
  | .ptr d => uptoBulk d + 1
  | .slice elems spare => uptoBulkAll elems + uptoBulkAll spare + 1
  | .agg parts => uptoBulkAll parts + 1
  | .iface _ d => uptoBulk d + 1
  | .map entries => uptoBulkEntries entries + 1
  | .held _ => 1
def uptoBulkAll {H : Type} : List (DataW H) → Nat
  | [] => 0
  | d :: r => uptoBulk d + uptoBulkAll r
def uptoBulkEntries {H : Type} : List (Lit × DataW H) → Nat
  | [] => 0
  | x :: r => uptoBulkEntry x + uptoBulkEntries r
def uptoBulkEntry {H : Type} : Lit × DataW H → Nat
  | (.string bytes, d) => bytes.length + uptoBulk d + 1
  | (_, d) => uptoBulk d + 1
 end
def uptoSmall : (H : Type) → List (DataW H) → Bool := fun _ ds => decide (uptoBulkAll ds ≤ 1048576)
def OpenSpec.upto (s : _root_.Go.ChangeSpec) : _root_.Go.OpenSpec := { _root_.Go.OpenSpec.ofChange s with cond := some uptoSmall }

/-- 'huerlaw05.BulkMeasures', WHERE WHAT IT READS IS OF BULK AT MOST 1048576: true; the input reads as it did. -/
def bulkMeasuresUptoRow : OpenClaim := { program := "ytpiadbdkiibdbaa", sum := "edd19cc0b653df1837af2062e02cda2c1019d9cfc5c3c24b11492c31437e9e85", func := "huer/huerlaw05.BulkMeasures", spec := "bulkMeasures", unfollowed := true, recurses := true, plainKeys := false, apart := false, narrowed := true }
def BulkMeasuresUptoSaid : Prop := bulkMeasuresUptoRow.holds Try.pinned (OpenSpec.upto bulkMeasuresSpec)

/-- 'huerlaw05.BulkTells', WHERE WHAT IT READS IS OF BULK AT MOST 1048576: true; the input reads as it did. -/
def bulkTellsUptoRow : OpenClaim := { program := "ytpiadbdkiibdbaa", sum := "edd19cc0b653df1837af2062e02cda2c1019d9cfc5c3c24b11492c31437e9e85", func := "huer/huerlaw05.BulkTells", spec := "bulkTells", unfollowed := true, recurses := true, plainKeys := false, apart := false, narrowed := true }
def BulkTellsUptoSaid : Prop := bulkTellsUptoRow.holds Try.pinned (OpenSpec.upto bulkTellsSpec)

/-- 'huerlaw05.BulkWeighs', WHERE WHAT IT READS IS OF BULK AT MOST 1048576: true; the input reads as it did. -/
def bulkWeighsUptoRow : OpenClaim := { program := "ytpiadbdkiibdbaa", sum := "edd19cc0b653df1837af2062e02cda2c1019d9cfc5c3c24b11492c31437e9e85", func := "huer/huerlaw05.BulkWeighs", spec := "bulkWeighs", unfollowed := true, recurses := true, plainKeys := false, apart := false, narrowed := true }
def BulkWeighsUptoSaid : Prop := bulkWeighsUptoRow.holds Try.pinned (OpenSpec.upto bulkWeighsSpec)

/-- 'huerlaw05.BulkTrue', WHERE WHAT IT READS IS OF BULK AT MOST 1048576: true; the input reads as it did. -/
def bulkTrueUptoRow : OpenClaim := { program := "ytpiadbdkiibdbaa", sum := "edd19cc0b653df1837af2062e02cda2c1019d9cfc5c3c24b11492c31437e9e85", func := "huer/huerlaw05.BulkTrue", spec := "bulkTrue", unfollowed := true, recurses := true, plainKeys := false, apart := false, narrowed := true }
def BulkTrueUptoSaid : Prop := bulkTrueUptoRow.holds Try.pinned (OpenSpec.upto bulkTrueSpec)

/-- 'huerlaw05.BulkAlone', WHERE WHAT IT READS IS OF BULK AT MOST 1048576: true; the input reads as it did. -/
def bulkAloneUptoRow : OpenClaim := { program := "ytpiadbdkiibdbaa", sum := "edd19cc0b653df1837af2062e02cda2c1019d9cfc5c3c24b11492c31437e9e85", func := "huer/huerlaw05.BulkAlone", spec := "bulkAlone", unfollowed := true, recurses := true, plainKeys := false, apart := false, narrowed := true }
def BulkAloneUptoSaid : Prop := bulkAloneUptoRow.holds Try.pinned (OpenSpec.upto bulkAloneSpec)

/-- 'huerlaw05.BulkMore', WHERE WHAT IT READS IS OF BULK AT MOST 1048576: true; the input reads as it did. -/
def bulkMoreUptoRow : OpenClaim := { program := "ytpiadbdkiibdbaa", sum := "edd19cc0b653df1837af2062e02cda2c1019d9cfc5c3c24b11492c31437e9e85", func := "huer/huerlaw05.BulkMore", spec := "bulkMore", unfollowed := true, recurses := true, plainKeys := false, apart := false, narrowed := true }
def BulkMoreUptoSaid : Prop := bulkMoreUptoRow.holds Try.pinned (OpenSpec.upto bulkMoreSpec)

/-- 'huerlaw05.BulkWeigh', WHERE WHAT IT READS IS OF BULK AT MOST 1048576: true; the input reads as it did. -/
def bulkWeighUptoRow : OpenClaim := { program := "ytpiadbdkiibdbaa", sum := "edd19cc0b653df1837af2062e02cda2c1019d9cfc5c3c24b11492c31437e9e85", func := "huer/huerlaw05.BulkWeigh", spec := "bulkWeigh", unfollowed := true, recurses := true, plainKeys := false, apart := false, narrowed := true }
def BulkWeighUptoSaid : Prop := bulkWeighUptoRow.holds Try.pinned (OpenSpec.upto bulkWeighSpec)

/-- 'huerlaw05.BulkWrong', WHERE WHAT IT READS IS OF BULK AT MOST 1048576: true; the input reads as it did. -/
def bulkWrongUptoRow : OpenClaim := { program := "ytpiadbdkiibdbaa", sum := "edd19cc0b653df1837af2062e02cda2c1019d9cfc5c3c24b11492c31437e9e85", func := "huer/huerlaw05.BulkWrong", spec := "bulkWrong", unfollowed := true, recurses := true, plainKeys := false, apart := false, narrowed := true }
def BulkWrongUptoSaid : Prop := bulkWrongUptoRow.holds Try.pinned (OpenSpec.upto bulkWrongSpec)

/-- 'huerlaw05.BulkEnough', WHERE WHAT IT READS IS OF BULK AT MOST 1048576: true; the input reads as it did. -/
def bulkEnoughUptoRow : OpenClaim := { program := "ytpiadbdkiibdbaa", sum := "edd19cc0b653df1837af2062e02cda2c1019d9cfc5c3c24b11492c31437e9e85", func := "huer/huerlaw05.BulkEnough", spec := "bulkEnough", unfollowed := true, recurses := true, plainKeys := false, apart := false, narrowed := true }
def BulkEnoughUptoSaid : Prop := bulkEnoughUptoRow.holds Try.pinned (OpenSpec.upto bulkEnoughSpec)

/-- 'huerlaw05.BulkNothing', WHERE WHAT IT READS IS OF BULK AT MOST 1048576: true; the input reads as it did. -/
def bulkNothingUptoRow : OpenClaim := { program := "ytpiadbdkiibdbaa", sum := "edd19cc0b653df1837af2062e02cda2c1019d9cfc5c3c24b11492c31437e9e85", func := "huer/huerlaw05.BulkNothing", spec := "bulkNothing", unfollowed := true, recurses := true, plainKeys := false, apart := false, narrowed := true }
def BulkNothingUptoSaid : Prop := bulkNothingUptoRow.holds Try.pinned (OpenSpec.upto bulkNothingSpec)

/-- 'huerlaw05.BulkKnown', WHERE WHAT IT READS IS OF BULK AT MOST 1048576: true; the input reads as it did. -/
def bulkKnownUptoRow : OpenClaim := { program := "ytpiadbdkiibdbaa", sum := "edd19cc0b653df1837af2062e02cda2c1019d9cfc5c3c24b11492c31437e9e85", func := "huer/huerlaw05.BulkKnown", spec := "bulkKnown", unfollowed := true, recurses := true, plainKeys := false, apart := false, narrowed := true }
def BulkKnownUptoSaid : Prop := bulkKnownUptoRow.holds Try.pinned (OpenSpec.upto bulkKnownSpec)

end Rows
end Go.Proofs.Ytpiadbdkiibdbaa
