/-
  NARROWER THAN 'FOR EVERY INPUT', by the rows' own cells (each row's printed sentence says how): FoldTimes: laid · FoldParts: laid.
  DERIVED. THE GIVEN ROWS OF THIS SEAT. 2 by the template 'for every input the law returns true; each argument reads behind the call as it read before'; 0 by the template 'total and deterministic' (their statements: YtpkdigegkemogaaGreatDoorTotals.lean).
  GIVEN WITH THE SEED: the statements are not yours to turn. If you find one false, say at which input.
  Laid BY PROGRAM, IN A SANDBOX (cutbox-rows.mjs): the forced cells as the released guide's own fill.sh prints them over the translation 5e151170abba2129… (all of the seat's roots in one cut). By AI agents, Wed Nov 11 2026. No macro, syntax, notation, axiom, sorry.
-/
import Derived.Test.YtpkdigegkemogaaGreatDoorChecked
import GoSem.Claim
import GoSem.ClaimJoined
import GoSem.ClaimMapViews
import Derived.JoinedTies
import Derived.KernelRfl
namespace Go.Proofs.YtpkdigegkemogaaGreatDoor
/- THE CELL 'sum', in the pinned program and in every row, IS THE sha256 OF THE DUMP (.gsa) THAT YtpkdigegkemogaaGreatDoorProg.lean LOADS. Nothing in Lean hashes anything: it is a label: what it is worth is what the hold of that sum in a sandbox is worth. -/
noncomputable def Tryz.pinned : Pinned := { name := "ytpkdigegkemogaagreatdoor", sum := "5e151170abba2129a37c2ed3712c9b88febcf5d72dbce1fc12f45fc4c35ba63f", checked := Tryz.checked }
namespace Rows
def none {H : Type} : Left H := { results := [], args := [] }

/- WHAT THE LISTED PACKAGE-LEVEL VARIABLES READ AS WHEN THE CALL BEGINS. Each datum BY PROGRAM (the guide's laid-datum.mjs) off the statement by which the dump's own 'gosem.cut.vars' lays the variable. In a bare row this is a premise. The card (YtpkdigegkemogaaGreatDoorCards.lean) ties it to the program's text. -/
def laid_sojourn_saga_phases {H : Type} : DataW H := .agg [.agg [.lit (.int .i64 0), .lit (.int .i64 0), .lit (.bool false)], .agg [.lit (.int .i64 2), .lit (.int .i64 2), .lit (.bool false)], .agg [.lit (.int .i64 4), .lit (.int .i64 2), .lit (.bool false)], .agg [.lit (.int .i64 5), .lit (.int .i64 2), .lit (.bool true)], .agg [.lit (.int .i64 0), .lit (.int .i64 3), .lit (.bool false)], .agg [.lit (.int .i64 0), .lit (.int .i64 4), .lit (.bool true)]]

/-- 'sojournlaw18.FoldTimes': WHATEVER THE INPUT: true; the input reads as it did. -/
def foldTimesSpec : ChangeSpec := { name := "foldTimes", fn := fun _ => fun
  | [d1, d2] => { results := [.lit (.bool true)], args := [d1, d2] }
  | _ => none }
def foldTimesRow : OpenClaim := { program := "ytpkdigegkemogaagreatdoor", sum := "5e151170abba2129a37c2ed3712c9b88febcf5d72dbce1fc12f45fc4c35ba63f", func := "sojourn/sojournlaw18.FoldTimes", spec := "foldTimes", inPlace := ["maps.clone", "math/bits.Sub64", "math/bits.Add64"], unfollowed := true, recurses := true, named := ["sojourn/saga.phases"], plainKeys := false, apart := false, laid := [("sojourn/saga.phases", laid_sojourn_saga_phases)] }
def FoldTimesSaid : Prop := foldTimesRow.holds Tryz.pinned (OpenSpec.ofChange foldTimesSpec)

/-- ITS FALSE NEIGHBOUR: 'it returns false'. Refute it at one input. -/
def foldTimesWrong : ChangeSpec := { name := "foldTimes", fn := fun _ => fun
  | [d1, d2] => { results := [.lit (.bool false)], args := [d1, d2] }
  | _ => none }
def FoldTimesWrongFalsely : Prop := foldTimesRow.holds Tryz.pinned (OpenSpec.ofChange foldTimesWrong)

/-- 'sojournlaw18.FoldParts': WHATEVER THE INPUT: true; the input reads as it did. -/
def foldPartsSpec : ChangeSpec := { name := "foldParts", fn := fun _ => fun
  | [d1, d2, d3] => { results := [.lit (.bool true)], args := [d1, d2, d3] }
  | _ => none }
def foldPartsRow : OpenClaim := { program := "ytpkdigegkemogaagreatdoor", sum := "5e151170abba2129a37c2ed3712c9b88febcf5d72dbce1fc12f45fc4c35ba63f", func := "sojourn/sojournlaw18.FoldParts", spec := "foldParts", inPlace := ["maps.clone", "math/bits.Sub64", "math/bits.Add64"], unfollowed := true, recurses := true, named := ["sojourn/saga.phases"], plainKeys := false, apart := false, laid := [("sojourn/saga.phases", laid_sojourn_saga_phases)] }
def FoldPartsSaid : Prop := foldPartsRow.holds Tryz.pinned (OpenSpec.ofChange foldPartsSpec)

/-- ITS FALSE NEIGHBOUR: 'it returns false'. Refute it at one input. -/
def foldPartsWrong : ChangeSpec := { name := "foldParts", fn := fun _ => fun
  | [d1, d2, d3] => { results := [.lit (.bool false)], args := [d1, d2, d3] }
  | _ => none }
def FoldPartsWrongFalsely : Prop := foldPartsRow.holds Tryz.pinned (OpenSpec.ofChange foldPartsWrong)

/- THE SECOND FORM. 'bulk': how many values and letters a reading holds, each counted each time it is reached (what is shared counts as often as it is met; a slice's spare places count too). A statement '..UptoSaid' is the law's where the arguments, and the package variables that the reading takes, are together of bulk at most 1048576: NARROWER than '..Said'. Prove '..Said' where nothing that the law and all that it calls make is longer than what came in: it says more and counts as full. Else prove '..UptoSaid'. A law counts once. -/
mutual
def uptoBulk {H : Type} : DataW H → Nat
  | .lit (.string bytes) => bytes.length + 1
  | .lit _ => 1
  | .nil => 1
  | .ptr d => uptoBulk d + 1
  | .slice elems spare => uptoBulkAll elems + uptoBulkAll spare + 1
  | .agg parts => uptoBulkAll parts + 1
  | .iface _ d => uptoBulk d + 1
  | .map entries => uptoBulkEntries entries + 1
  | .held _ => 1
def uptoBulkAll {H : Type} : List (DataW H) → Nat
  | [] => 0
  | d :: r => uptoBulk d + uptoBulkAll r
def uptoBulkEntries {H : Type} : List (Lit × DataW H) → Nat
  | [] => 0
  | x :: r => uptoBulkEntry x + uptoBulkEntries r
def uptoBulkEntry {H : Type} : Lit × DataW H → Nat
  | (.string bytes, d) => bytes.length + uptoBulk d + 1
  | (_, d) => uptoBulk d + 1
 end
def uptoSmall : (H : Type) → List (DataW H) → Bool := fun _ ds => decide (uptoBulkAll ds ≤ 1048576)
def OpenSpec.upto (s : _root_.Go.ChangeSpec) : _root_.Go.OpenSpec := { _root_.Go.OpenSpec.ofChange s with cond := some uptoSmall }

/-- 'sojournlaw18.FoldTimes', WHERE WHAT IT READS IS OF BULK AT MOST 1048576: true; the input reads as it did. -/
def foldTimesUptoRow : OpenClaim := { program := "ytpkdigegkemogaagreatdoor", sum := "5e151170abba2129a37c2ed3712c9b88febcf5d72dbce1fc12f45fc4c35ba63f", func := "sojourn/sojournlaw18.FoldTimes", spec := "foldTimes", inPlace := ["maps.clone", "math/bits.Sub64", "math/bits.Add64"], unfollowed := true, recurses := true, named := ["sojourn/saga.phases"], plainKeys := false, apart := false, laid := [("sojourn/saga.phases", laid_sojourn_saga_phases)], narrowed := true }
def FoldTimesUptoSaid : Prop := foldTimesUptoRow.holds Tryz.pinned (OpenSpec.upto foldTimesSpec)

/-- 'sojournlaw18.FoldParts', WHERE WHAT IT READS IS OF BULK AT MOST 1048576: true; the input reads as it did. -/
def foldPartsUptoRow : OpenClaim := { program := "ytpkdigegkemogaagreatdoor", sum := "5e151170abba2129a37c2ed3712c9b88febcf5d72dbce1fc12f45fc4c35ba63f", func := "sojourn/sojournlaw18.FoldParts", spec := "foldParts", inPlace := ["maps.clone", "math/bits.Sub64", "math/bits.Add64"], unfollowed := true, recurses := true, named := ["sojourn/saga.phases"], plainKeys := false, apart := false, laid := [("sojourn/saga.phases", laid_sojourn_saga_phases)], narrowed := true }
def FoldPartsUptoSaid : Prop := foldPartsUptoRow.holds Tryz.pinned (OpenSpec.upto foldPartsSpec)

end Rows
end Go.Proofs.YtpkdigegkemogaaGreatDoor
