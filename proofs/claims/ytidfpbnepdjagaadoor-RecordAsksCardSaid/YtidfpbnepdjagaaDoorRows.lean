/-
  NARROWER THAN 'FOR EVERY INPUT', by the rows' own cells (each row's printed sentence says how): RecordAsks: laid · RecordBack: laid · RecordKinds: laid.
  DERIVED. THE GIVEN ROWS OF THIS SEAT. 3 by the template 'for every input the law returns true; each argument reads behind the call as it read before'; 0 by the template 'total and deterministic' (their statements: YtidfpbnepdjagaaDoorTotals.lean).
  GIVEN WITH THE SEED: the statements are not yours to turn. If you find one false, say at which input.
  Laid BY PROGRAM, IN A SANDBOX (cutbox-rows.mjs): the forced cells as the released guide's own fill.sh prints them over the translation bb1309f3b605dd22… (all of the seat's roots in one cut). By AI agents, Wed Nov 11 2026. No macro, syntax, notation, axiom, sorry.
-/
import Derived.Test.YtidfpbnepdjagaaDoorChecked
import GoSem.Claim
import GoSem.ClaimJoined
import GoSem.ClaimMapViews
import Derived.JoinedTies
import Derived.KernelRfl
namespace Go.Proofs.YtidfpbnepdjagaaDoor
/- THE CELL 'sum', in the pinned program and in every row, IS THE sha256 OF THE DUMP (.gsa) THAT YtidfpbnepdjagaaDoorProg.lean LOADS. Nothing in Lean hashes anything: it is a label: what it is worth is what the hold of that sum in a sandbox is worth. -/
noncomputable def Tryd.pinned : Pinned := { name := "ytidfpbnepdjagaadoor", sum := "bb1309f3b605dd22004abbf0280b0f83ab05f27ac2e152c0f5c755c4165e0912", checked := Tryd.checked }
namespace Rows
def none {H : Type} : Left H := { results := [], args := [] }

/- WHAT THE LISTED PACKAGE-LEVEL VARIABLES READ AS WHEN THE CALL BEGINS. Each datum BY PROGRAM (the guide's laid-datum.mjs) off the statement by which the dump's own 'gosem.cut.vars' lays the variable. In a bare row this is a premise. The card (YtidfpbnepdjagaaDoorCards.lean) ties it to the program's text. -/
def laid_sojourn_saga_phases {H : Type} : DataW H := .agg [.agg [.lit (.int .i64 0), .lit (.int .i64 0), .lit (.bool false)], .agg [.lit (.int .i64 2), .lit (.int .i64 2), .lit (.bool false)], .agg [.lit (.int .i64 4), .lit (.int .i64 2), .lit (.bool false)], .agg [.lit (.int .i64 5), .lit (.int .i64 2), .lit (.bool true)], .agg [.lit (.int .i64 0), .lit (.int .i64 3), .lit (.bool false)], .agg [.lit (.int .i64 0), .lit (.int .i64 4), .lit (.bool true)]]

/-- 'sojournlaw17.RecordAsks': WHATEVER THE INPUT: true; the input reads as it did. -/
def recordAsksSpec : ChangeSpec := { name := "recordAsks", fn := fun _ => fun
  | [d1, d2, d3] => { results := [.lit (.bool true)], args := [d1, d2, d3] }
  | _ => none }
def recordAsksRow : OpenClaim := { program := "ytidfpbnepdjagaadoor", sum := "bb1309f3b605dd22004abbf0280b0f83ab05f27ac2e152c0f5c755c4165e0912", func := "sojourn/sojournlaw17.RecordAsks", spec := "recordAsks", unfollowed := true, recurses := true, named := ["sojourn/saga.phases"], apart := false, laid := [("sojourn/saga.phases", laid_sojourn_saga_phases)] }
def RecordAsksSaid : Prop := recordAsksRow.holds Tryd.pinned (OpenSpec.ofChange recordAsksSpec)

/-- ITS FALSE NEIGHBOUR: 'it returns false'. Refute it at one input. -/
def recordAsksWrong : ChangeSpec := { name := "recordAsks", fn := fun _ => fun
  | [d1, d2, d3] => { results := [.lit (.bool false)], args := [d1, d2, d3] }
  | _ => none }
def RecordAsksWrongFalsely : Prop := recordAsksRow.holds Tryd.pinned (OpenSpec.ofChange recordAsksWrong)

/-- 'sojournlaw17.RecordBack': WHATEVER THE INPUT: true; the input reads as it did. -/
def recordBackSpec : ChangeSpec := { name := "recordBack", fn := fun _ => fun
  | [d1, d2, d3, d4] => { results := [.lit (.bool true)], args := [d1, d2, d3, d4] }
  | _ => none }
def recordBackRow : OpenClaim := { program := "ytidfpbnepdjagaadoor", sum := "bb1309f3b605dd22004abbf0280b0f83ab05f27ac2e152c0f5c755c4165e0912", func := "sojourn/sojournlaw17.RecordBack", spec := "recordBack", unfollowed := true, recurses := true, named := ["sojourn/saga.phases"], apart := false, laid := [("sojourn/saga.phases", laid_sojourn_saga_phases)] }
def RecordBackSaid : Prop := recordBackRow.holds Tryd.pinned (OpenSpec.ofChange recordBackSpec)

/-- ITS FALSE NEIGHBOUR: 'it returns false'. Refute it at one input. -/
def recordBackWrong : ChangeSpec := { name := "recordBack", fn := fun _ => fun
  | [d1, d2, d3, d4] => { results := [.lit (.bool false)], args := [d1, d2, d3, d4] }
  | _ => none }
def RecordBackWrongFalsely : Prop := recordBackRow.holds Tryd.pinned (OpenSpec.ofChange recordBackWrong)

/-- 'sojournlaw17.RecordKinds': WHATEVER THE INPUT: true; the input reads as it did. -/
def recordKindsSpec : ChangeSpec := { name := "recordKinds", fn := fun _ => fun
  | [d1, d2, d3, d4] => { results := [.lit (.bool true)], args := [d1, d2, d3, d4] }
  | _ => none }
def recordKindsRow : OpenClaim := { program := "ytidfpbnepdjagaadoor", sum := "bb1309f3b605dd22004abbf0280b0f83ab05f27ac2e152c0f5c755c4165e0912", func := "sojourn/sojournlaw17.RecordKinds", spec := "recordKinds", unfollowed := true, recurses := true, named := ["sojourn/saga.phases"], apart := false, laid := [("sojourn/saga.phases", laid_sojourn_saga_phases)] }
def RecordKindsSaid : Prop := recordKindsRow.holds Tryd.pinned (OpenSpec.ofChange recordKindsSpec)

/-- ITS FALSE NEIGHBOUR: 'it returns false'. Refute it at one input. -/
def recordKindsWrong : ChangeSpec := { name := "recordKinds", fn := fun _ => fun
  | [d1, d2, d3, d4] => { results := [.lit (.bool false)], args := [d1, d2, d3, d4] }
  | _ => none }
def RecordKindsWrongFalsely : Prop := recordKindsRow.holds Tryd.pinned (OpenSpec.ofChange recordKindsWrong)

/- THE SECOND FORM. 'bulk': how many values and letters a reading holds, each counted each time it is reached (what is shared counts as often as it is met; a slice's spare places count too). A statement '..UptoSaid' is the law's where the arguments, and the package variables that the reading takes, are together of bulk at most 1048576: NARROWER than '..Said'. Prove '..Said' where nothing that the law and all that it calls make is longer than what came in: it says more and counts as full. Else prove '..UptoSaid'. A law counts once. -/
mutual
def uptoBulk {H : Type} : DataW H → Nat
  | .lit (.string bytes) => bytes.length + 1
  | .lit _ => 1
  | .nil => 1
  | .ptr d => uptoBulk d + 1
  | .slice elems spare => uptoBulkAll elems + uptoBulkAll spare + 1
  | .agg parts => uptoBulkAll parts + 1
  | .iface _ d => uptoBulk d + 1
  | .map entries => uptoBulkEntries entries + 1
  | .held _ => 1
def uptoBulkAll {H : Type} : List (DataW H) → Nat
  | [] => 0
  | d :: r => uptoBulk d + uptoBulkAll r
def uptoBulkEntries {H : Type} : List (Lit × DataW H) → Nat
  | [] => 0
  | x :: r => uptoBulkEntry x + uptoBulkEntries r
def uptoBulkEntry {H : Type} : Lit × DataW H → Nat
  | (.string bytes, d) => bytes.length + uptoBulk d + 1
  | (_, d) => uptoBulk d + 1
 end
def uptoSmall : (H : Type) → List (DataW H) → Bool := fun _ ds => decide (uptoBulkAll ds ≤ 1048576)
def OpenSpec.upto (s : _root_.Go.ChangeSpec) : _root_.Go.OpenSpec := { _root_.Go.OpenSpec.ofChange s with cond := some uptoSmall }

/-- 'sojournlaw17.RecordAsks', WHERE WHAT IT READS IS OF BULK AT MOST 1048576: true; the input reads as it did. -/
def recordAsksUptoRow : OpenClaim := { program := "ytidfpbnepdjagaadoor", sum := "bb1309f3b605dd22004abbf0280b0f83ab05f27ac2e152c0f5c755c4165e0912", func := "sojourn/sojournlaw17.RecordAsks", spec := "recordAsks", unfollowed := true, recurses := true, named := ["sojourn/saga.phases"], apart := false, laid := [("sojourn/saga.phases", laid_sojourn_saga_phases)], narrowed := true }
def RecordAsksUptoSaid : Prop := recordAsksUptoRow.holds Tryd.pinned (OpenSpec.upto recordAsksSpec)

/-- 'sojournlaw17.RecordBack', WHERE WHAT IT READS IS OF BULK AT MOST 1048576: true; the input reads as it did. -/
def recordBackUptoRow : OpenClaim := { program := "ytidfpbnepdjagaadoor", sum := "bb1309f3b605dd22004abbf0280b0f83ab05f27ac2e152c0f5c755c4165e0912", func := "sojourn/sojournlaw17.RecordBack", spec := "recordBack", unfollowed := true, recurses := true, named := ["sojourn/saga.phases"], apart := false, laid := [("sojourn/saga.phases", laid_sojourn_saga_phases)], narrowed := true }
def RecordBackUptoSaid : Prop := recordBackUptoRow.holds Tryd.pinned (OpenSpec.upto recordBackSpec)

/-- 'sojournlaw17.RecordKinds', WHERE WHAT IT READS IS OF BULK AT MOST 1048576: true; the input reads as it did. -/
def recordKindsUptoRow : OpenClaim := { program := "ytidfpbnepdjagaadoor", sum := "bb1309f3b605dd22004abbf0280b0f83ab05f27ac2e152c0f5c755c4165e0912", func := "sojourn/sojournlaw17.RecordKinds", spec := "recordKinds", unfollowed := true, recurses := true, named := ["sojourn/saga.phases"], apart := false, laid := [("sojourn/saga.phases", laid_sojourn_saga_phases)], narrowed := true }
def RecordKindsUptoSaid : Prop := recordKindsUptoRow.holds Tryd.pinned (OpenSpec.upto recordKindsSpec)

end Rows
end Go.Proofs.YtidfpbnepdjagaaDoor
