/-
  NARROWER THAN 'FOR EVERY INPUT', by the rows' own cells (each row's printed sentence says how): SagaAsks: laid · SagaBytes: laid · SagaEnds: laid · SagaReasons: laid · SagaWhole: laid · SagaUndone: laid · SagaTurned: laid.
  DERIVED. THE GIVEN ROWS OF THIS SEAT. 7 by the template 'for every input the law returns true; each argument reads behind the call as it read before'; 0 by the template 'total and deterministic' (their statements: YtakicogelkdofaaDoorTotals.lean).
  GIVEN WITH THE SEED: the statements are not yours to turn. If you find one false, say at which input.
  Laid BY PROGRAM, IN A SANDBOX (cutbox-rows.mjs): the forced cells as the released guide's own fill.sh prints them over the translation e825cda6494cee73… (all of the seat's roots in one cut). By AI agents, Wed Nov 11 2026. No macro, syntax, notation, axiom, sorry.
-/
import Derived.Test.YtakicogelkdofaaDoorChecked
import GoSem.Claim
import GoSem.ClaimJoined
import GoSem.ClaimMapViews
import Derived.JoinedTies
import Derived.KernelRfl
namespace Go.Proofs.YtakicogelkdofaaDoor
/- THE CELL 'sum', in the pinned program and in every row, IS THE sha256 OF THE DUMP (.gsa) THAT YtakicogelkdofaaDoorProg.lean LOADS. Nothing in Lean hashes anything: it is a label: what it is worth is what the hold of that sum in a sandbox is worth. -/
noncomputable def Tryd.pinned : Pinned := { name := "ytakicogelkdofaadoor", sum := "e825cda6494cee73fef020d891225ed3b844c8b7c6c09bd64d6264e7f14536d1", checked := Tryd.checked }
namespace Rows
def none {H : Type} : Left H := { results := [], args := [] }

/- WHAT THE LISTED PACKAGE-LEVEL VARIABLES READ AS WHEN THE CALL BEGINS. Each datum BY PROGRAM (the guide's laid-datum.mjs) off the statement by which the dump's own 'gosem.cut.vars' lays the variable. In a bare row this is a premise. The card (YtakicogelkdofaaDoorCards.lean) ties it to the program's text. -/
def laid_sojourn_saga_phases {H : Type} : DataW H := .agg [.agg [.lit (.int .i64 0), .lit (.int .i64 0), .lit (.bool false)], .agg [.lit (.int .i64 2), .lit (.int .i64 2), .lit (.bool false)], .agg [.lit (.int .i64 4), .lit (.int .i64 2), .lit (.bool false)], .agg [.lit (.int .i64 5), .lit (.int .i64 2), .lit (.bool true)], .agg [.lit (.int .i64 0), .lit (.int .i64 3), .lit (.bool false)], .agg [.lit (.int .i64 0), .lit (.int .i64 4), .lit (.bool true)]]

/-- 'sojournlaw15.SagaAsks': WHATEVER THE INPUT: true; the input reads as it did. -/
def sagaAsksSpec : ChangeSpec := { name := "sagaAsks", fn := fun _ => fun
  | [d1, d2, d3, d4] => { results := [.lit (.bool true)], args := [d1, d2, d3, d4] }
  | _ => none }
def sagaAsksRow : OpenClaim := { program := "ytakicogelkdofaadoor", sum := "e825cda6494cee73fef020d891225ed3b844c8b7c6c09bd64d6264e7f14536d1", func := "sojourn/sojournlaw15.SagaAsks", spec := "sagaAsks", unfollowed := true, recurses := true, named := ["sojourn/saga.phases"], apart := false, laid := [("sojourn/saga.phases", laid_sojourn_saga_phases)] }
def SagaAsksSaid : Prop := sagaAsksRow.holds Tryd.pinned (OpenSpec.ofChange sagaAsksSpec)

/-- ITS FALSE NEIGHBOUR: 'it returns false'. Refute it at one input. -/
def sagaAsksWrong : ChangeSpec := { name := "sagaAsks", fn := fun _ => fun
  | [d1, d2, d3, d4] => { results := [.lit (.bool false)], args := [d1, d2, d3, d4] }
  | _ => none }
def SagaAsksWrongFalsely : Prop := sagaAsksRow.holds Tryd.pinned (OpenSpec.ofChange sagaAsksWrong)

/-- 'sojournlaw15.SagaBytes': WHATEVER THE INPUT: true; the input reads as it did. -/
def sagaBytesSpec : ChangeSpec := { name := "sagaBytes", fn := fun _ => fun
  | [d1, d2] => { results := [.lit (.bool true)], args := [d1, d2] }
  | _ => none }
def sagaBytesRow : OpenClaim := { program := "ytakicogelkdofaadoor", sum := "e825cda6494cee73fef020d891225ed3b844c8b7c6c09bd64d6264e7f14536d1", func := "sojourn/sojournlaw15.SagaBytes", spec := "sagaBytes", unfollowed := true, recurses := true, named := ["sojourn/saga.phases"], apart := false, laid := [("sojourn/saga.phases", laid_sojourn_saga_phases)] }
def SagaBytesSaid : Prop := sagaBytesRow.holds Tryd.pinned (OpenSpec.ofChange sagaBytesSpec)

/-- ITS FALSE NEIGHBOUR: 'it returns false'. Refute it at one input. -/
def sagaBytesWrong : ChangeSpec := { name := "sagaBytes", fn := fun _ => fun
  | [d1, d2] => { results := [.lit (.bool false)], args := [d1, d2] }
  | _ => none }
def SagaBytesWrongFalsely : Prop := sagaBytesRow.holds Tryd.pinned (OpenSpec.ofChange sagaBytesWrong)

/-- 'sojournlaw15.SagaEnds': WHATEVER THE INPUT: true; the input reads as it did. -/
def sagaEndsSpec : ChangeSpec := { name := "sagaEnds", fn := fun _ => fun
  | [d1, d2] => { results := [.lit (.bool true)], args := [d1, d2] }
  | _ => none }
def sagaEndsRow : OpenClaim := { program := "ytakicogelkdofaadoor", sum := "e825cda6494cee73fef020d891225ed3b844c8b7c6c09bd64d6264e7f14536d1", func := "sojourn/sojournlaw15.SagaEnds", spec := "sagaEnds", unfollowed := true, recurses := true, named := ["sojourn/saga.phases"], apart := false, laid := [("sojourn/saga.phases", laid_sojourn_saga_phases)] }
def SagaEndsSaid : Prop := sagaEndsRow.holds Tryd.pinned (OpenSpec.ofChange sagaEndsSpec)

/-- ITS FALSE NEIGHBOUR: 'it returns false'. Refute it at one input. -/
def sagaEndsWrong : ChangeSpec := { name := "sagaEnds", fn := fun _ => fun
  | [d1, d2] => { results := [.lit (.bool false)], args := [d1, d2] }
  | _ => none }
def SagaEndsWrongFalsely : Prop := sagaEndsRow.holds Tryd.pinned (OpenSpec.ofChange sagaEndsWrong)

/-- 'sojournlaw15.SagaReasons': WHATEVER THE INPUT: true; the input reads as it did. -/
def sagaReasonsSpec : ChangeSpec := { name := "sagaReasons", fn := fun _ => fun
  | [d1, d2, d3] => { results := [.lit (.bool true)], args := [d1, d2, d3] }
  | _ => none }
def sagaReasonsRow : OpenClaim := { program := "ytakicogelkdofaadoor", sum := "e825cda6494cee73fef020d891225ed3b844c8b7c6c09bd64d6264e7f14536d1", func := "sojourn/sojournlaw15.SagaReasons", spec := "sagaReasons", unfollowed := true, recurses := true, named := ["sojourn/saga.phases"], apart := false, laid := [("sojourn/saga.phases", laid_sojourn_saga_phases)] }
def SagaReasonsSaid : Prop := sagaReasonsRow.holds Tryd.pinned (OpenSpec.ofChange sagaReasonsSpec)

/-- ITS FALSE NEIGHBOUR: 'it returns false'. Refute it at one input. -/
def sagaReasonsWrong : ChangeSpec := { name := "sagaReasons", fn := fun _ => fun
  | [d1, d2, d3] => { results := [.lit (.bool false)], args := [d1, d2, d3] }
  | _ => none }
def SagaReasonsWrongFalsely : Prop := sagaReasonsRow.holds Tryd.pinned (OpenSpec.ofChange sagaReasonsWrong)

/-- 'sojournlaw15.SagaWhole': WHATEVER THE INPUT: true; the input reads as it did. -/
def sagaWholeSpec : ChangeSpec := { name := "sagaWhole", fn := fun _ => fun
  | [d1, d2] => { results := [.lit (.bool true)], args := [d1, d2] }
  | _ => none }
def sagaWholeRow : OpenClaim := { program := "ytakicogelkdofaadoor", sum := "e825cda6494cee73fef020d891225ed3b844c8b7c6c09bd64d6264e7f14536d1", func := "sojourn/sojournlaw15.SagaWhole", spec := "sagaWhole", unfollowed := true, recurses := true, named := ["sojourn/saga.phases"], apart := false, laid := [("sojourn/saga.phases", laid_sojourn_saga_phases)] }
def SagaWholeSaid : Prop := sagaWholeRow.holds Tryd.pinned (OpenSpec.ofChange sagaWholeSpec)

/-- ITS FALSE NEIGHBOUR: 'it returns false'. Refute it at one input. -/
def sagaWholeWrong : ChangeSpec := { name := "sagaWhole", fn := fun _ => fun
  | [d1, d2] => { results := [.lit (.bool false)], args := [d1, d2] }
  | _ => none }
def SagaWholeWrongFalsely : Prop := sagaWholeRow.holds Tryd.pinned (OpenSpec.ofChange sagaWholeWrong)

/-- 'sojournlaw15.SagaUndone': WHATEVER THE INPUT: true; the input reads as it did. -/
def sagaUndoneSpec : ChangeSpec := { name := "sagaUndone", fn := fun _ => fun
  | [d1, d2, d3] => { results := [.lit (.bool true)], args := [d1, d2, d3] }
  | _ => none }
def sagaUndoneRow : OpenClaim := { program := "ytakicogelkdofaadoor", sum := "e825cda6494cee73fef020d891225ed3b844c8b7c6c09bd64d6264e7f14536d1", func := "sojourn/sojournlaw15.SagaUndone", spec := "sagaUndone", unfollowed := true, recurses := true, named := ["sojourn/saga.phases"], apart := false, laid := [("sojourn/saga.phases", laid_sojourn_saga_phases)] }
def SagaUndoneSaid : Prop := sagaUndoneRow.holds Tryd.pinned (OpenSpec.ofChange sagaUndoneSpec)

/-- ITS FALSE NEIGHBOUR: 'it returns false'. Refute it at one input. -/
def sagaUndoneWrong : ChangeSpec := { name := "sagaUndone", fn := fun _ => fun
  | [d1, d2, d3] => { results := [.lit (.bool false)], args := [d1, d2, d3] }
  | _ => none }
def SagaUndoneWrongFalsely : Prop := sagaUndoneRow.holds Tryd.pinned (OpenSpec.ofChange sagaUndoneWrong)

/-- 'sojournlaw15.SagaTurned': WHATEVER THE INPUT: true; the input reads as it did. -/
def sagaTurnedSpec : ChangeSpec := { name := "sagaTurned", fn := fun _ => fun
  | [d1, d2, d3, d4] => { results := [.lit (.bool true)], args := [d1, d2, d3, d4] }
  | _ => none }
def sagaTurnedRow : OpenClaim := { program := "ytakicogelkdofaadoor", sum := "e825cda6494cee73fef020d891225ed3b844c8b7c6c09bd64d6264e7f14536d1", func := "sojourn/sojournlaw15.SagaTurned", spec := "sagaTurned", unfollowed := true, recurses := true, named := ["sojourn/saga.phases"], apart := false, laid := [("sojourn/saga.phases", laid_sojourn_saga_phases)] }
def SagaTurnedSaid : Prop := sagaTurnedRow.holds Tryd.pinned (OpenSpec.ofChange sagaTurnedSpec)

/-- ITS FALSE NEIGHBOUR: 'it returns false'. Refute it at one input. -/
def sagaTurnedWrong : ChangeSpec := { name := "sagaTurned", fn := fun _ => fun
  | [d1, d2, d3, d4] => { results := [.lit (.bool false)], args := [d1, d2, d3, d4] }
  | _ => none }
def SagaTurnedWrongFalsely : Prop := sagaTurnedRow.holds Tryd.pinned (OpenSpec.ofChange sagaTurnedWrong)

/- THE SECOND FORM. 'bulk': how many values and letters a reading holds, each counted each time it is reached (what is shared counts as often as it is met; a slice's spare places count too). A statement '..UptoSaid' is the law's where the arguments, and the package variables that the reading takes, are together of bulk at most 1048576: NARROWER than '..Said'. Prove '..Said' where nothing that the law and all that it calls make is longer than what came in: it says more and counts as full. Else prove '..UptoSaid'. A law counts once. -/
mutual
def uptoBulk {H : Type} : DataW H → Nat
  | .lit (.string bytes) => bytes.length + 1
  | .lit _ => 1
  | .nil => 1
  | .ptr d => uptoBulk d + 1
  | .slice elems spare => uptoBulkAll elems + uptoBulkAll spare + 1
  | .agg parts => uptoBulkAll parts + 1
  | .iface _ d => uptoBulk d + 1
  | .map entries => uptoBulkEntries entries + 1
  | .held _ => 1
def uptoBulkAll {H : Type} : List (DataW H) → Nat
  | [] => 0
  | d :: r => uptoBulk d + uptoBulkAll r
def uptoBulkEntries {H : Type} : List (Lit × DataW H) → Nat
  | [] => 0
  | x :: r => uptoBulkEntry x + uptoBulkEntries r
def uptoBulkEntry {H : Type} : Lit × DataW H → Nat
  | (.string bytes, d) => bytes.length + uptoBulk d + 1
  | (_, d) => uptoBulk d + 1
 end
def uptoSmall : (H : Type) → List (DataW H) → Bool := fun _ ds => decide (uptoBulkAll ds ≤ 1048576)
def OpenSpec.upto (s : _root_.Go.ChangeSpec) : _root_.Go.OpenSpec := { _root_.Go.OpenSpec.ofChange s with cond := some uptoSmall }

/-- 'sojournlaw15.SagaAsks', WHERE WHAT IT READS IS OF BULK AT MOST 1048576: true; the input reads as it did. -/
def sagaAsksUptoRow : OpenClaim := { program := "ytakicogelkdofaadoor", sum := "e825cda6494cee73fef020d891225ed3b844c8b7c6c09bd64d6264e7f14536d1", func := "sojourn/sojournlaw15.SagaAsks", spec := "sagaAsks", unfollowed := true, recurses := true, named := ["sojourn/saga.phases"], apart := false, laid := [("sojourn/saga.phases", laid_sojourn_saga_phases)], narrowed := true }
def SagaAsksUptoSaid : Prop := sagaAsksUptoRow.holds Tryd.pinned (OpenSpec.upto sagaAsksSpec)

/-- 'sojournlaw15.SagaBytes', WHERE WHAT IT READS IS OF BULK AT MOST 1048576: true; the input reads as it did. -/
def sagaBytesUptoRow : OpenClaim := { program := "ytakicogelkdofaadoor", sum := "e825cda6494cee73fef020d891225ed3b844c8b7c6c09bd64d6264e7f14536d1", func := "sojourn/sojournlaw15.SagaBytes", spec := "sagaBytes", unfollowed := true, recurses := true, named := ["sojourn/saga.phases"], apart := false, laid := [("sojourn/saga.phases", laid_sojourn_saga_phases)], narrowed := true }
def SagaBytesUptoSaid : Prop := sagaBytesUptoRow.holds Tryd.pinned (OpenSpec.upto sagaBytesSpec)

/-- 'sojournlaw15.SagaEnds', WHERE WHAT IT READS IS OF BULK AT MOST 1048576: true; the input reads as it did. -/
def sagaEndsUptoRow : OpenClaim := { program := "ytakicogelkdofaadoor", sum := "e825cda6494cee73fef020d891225ed3b844c8b7c6c09bd64d6264e7f14536d1", func := "sojourn/sojournlaw15.SagaEnds", spec := "sagaEnds", unfollowed := true, recurses := true, named := ["sojourn/saga.phases"], apart := false, laid := [("sojourn/saga.phases", laid_sojourn_saga_phases)], narrowed := true }
def SagaEndsUptoSaid : Prop := sagaEndsUptoRow.holds Tryd.pinned (OpenSpec.upto sagaEndsSpec)

/-- 'sojournlaw15.SagaReasons', WHERE WHAT IT READS IS OF BULK AT MOST 1048576: true; the input reads as it did. -/
def sagaReasonsUptoRow : OpenClaim := { program := "ytakicogelkdofaadoor", sum := "e825cda6494cee73fef020d891225ed3b844c8b7c6c09bd64d6264e7f14536d1", func := "sojourn/sojournlaw15.SagaReasons", spec := "sagaReasons", unfollowed := true, recurses := true, named := ["sojourn/saga.phases"], apart := false, laid := [("sojourn/saga.phases", laid_sojourn_saga_phases)], narrowed := true }
def SagaReasonsUptoSaid : Prop := sagaReasonsUptoRow.holds Tryd.pinned (OpenSpec.upto sagaReasonsSpec)

/-- 'sojournlaw15.SagaWhole', WHERE WHAT IT READS IS OF BULK AT MOST 1048576: true; the input reads as it did. -/
def sagaWholeUptoRow : OpenClaim := { program := "ytakicogelkdofaadoor", sum := "e825cda6494cee73fef020d891225ed3b844c8b7c6c09bd64d6264e7f14536d1", func := "sojourn/sojournlaw15.SagaWhole", spec := "sagaWhole", unfollowed := true, recurses := true, named := ["sojourn/saga.phases"], apart := false, laid := [("sojourn/saga.phases", laid_sojourn_saga_phases)], narrowed := true }
def SagaWholeUptoSaid : Prop := sagaWholeUptoRow.holds Tryd.pinned (OpenSpec.upto sagaWholeSpec)

/-- 'sojournlaw15.SagaUndone', WHERE WHAT IT READS IS OF BULK AT MOST 1048576: true; the input reads as it did. -/
def sagaUndoneUptoRow : OpenClaim := { program := "ytakicogelkdofaadoor", sum := "e825cda6494cee73fef020d891225ed3b844c8b7c6c09bd64d6264e7f14536d1", func := "sojourn/sojournlaw15.SagaUndone", spec := "sagaUndone", unfollowed := true, recurses := true, named := ["sojourn/saga.phases"], apart := false, laid := [("sojourn/saga.phases", laid_sojourn_saga_phases)], narrowed := true }
def SagaUndoneUptoSaid : Prop := sagaUndoneUptoRow.holds Tryd.pinned (OpenSpec.upto sagaUndoneSpec)

/-- 'sojournlaw15.SagaTurned', WHERE WHAT IT READS IS OF BULK AT MOST 1048576: true; the input reads as it did. -/
def sagaTurnedUptoRow : OpenClaim := { program := "ytakicogelkdofaadoor", sum := "e825cda6494cee73fef020d891225ed3b844c8b7c6c09bd64d6264e7f14536d1", func := "sojourn/sojournlaw15.SagaTurned", spec := "sagaTurned", unfollowed := true, recurses := true, named := ["sojourn/saga.phases"], apart := false, laid := [("sojourn/saga.phases", laid_sojourn_saga_phases)], narrowed := true }
def SagaTurnedUptoSaid : Prop := sagaTurnedUptoRow.holds Tryd.pinned (OpenSpec.upto sagaTurnedSpec)

end Rows
end Go.Proofs.YtakicogelkdofaaDoor
