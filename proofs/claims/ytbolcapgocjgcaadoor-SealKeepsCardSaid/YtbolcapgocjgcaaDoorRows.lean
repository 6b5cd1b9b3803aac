/-
  NARROWER THAN 'FOR EVERY INPUT', by the rows' own cells (each row's printed sentence says how): SealKeeps: laid · SealElder: laid · SealFull: laid · SealMany: laid.
  DERIVED. THE GIVEN ROWS OF THIS SEAT. 4 by the template 'for every input the law returns true; each argument reads behind the call as it read before'; 0 by the template 'total and deterministic' (their statements: YtbolcapgocjgcaaDoorTotals.lean).
  GIVEN WITH THE SEED: the statements are not yours to turn. If you find one false, say at which input.
  Laid BY PROGRAM, IN A SANDBOX (cutbox-rows.mjs): the forced cells as the released guide's own fill.sh prints them over the translation 5219edc5b8729268… (all of the seat's roots in one cut). By AI agents, Wed Nov 11 2026. No macro, syntax, notation, axiom, sorry.
-/
import Derived.Test.YtbolcapgocjgcaaDoorChecked
import GoSem.Claim
import GoSem.ClaimJoined
import GoSem.ClaimMapViews
import Derived.JoinedTies
import Derived.KernelRfl
namespace Go.Proofs.YtbolcapgocjgcaaDoor
/- THE CELL 'sum', in the pinned program and in every row, IS THE sha256 OF THE DUMP (.gsa) THAT YtbolcapgocjgcaaDoorProg.lean LOADS. Nothing in Lean hashes anything: it is a label: what it is worth is what the hold of that sum in a sandbox is worth. -/
noncomputable def Tryd.pinned : Pinned := { name := "ytbolcapgocjgcaadoor", sum := "5219edc5b8729268d6b7527ebf3dbc294f382e11b5709cf3f72182876125f21f", checked := Tryd.checked }
namespace Rows
def none {H : Type} : Left H := { results := [], args := [] }

/- WHAT THE LISTED PACKAGE-LEVEL VARIABLES READ AS WHEN THE CALL BEGINS. Each datum BY PROGRAM (the guide's laid-datum.mjs) off the statement by which the dump's own 'gosem.cut.vars' lays the variable. In a bare row this is a premise. The card (YtbolcapgocjgcaaDoorCards.lean) ties it to the program's text. -/
def laid_sojourn_pack_crcOf {H : Type} : DataW H := .agg [.lit (.int .u32 0), .lit (.int .u32 498536548), .lit (.int .u32 997073096), .lit (.int .u32 651767980), .lit (.int .u32 1994146192), .lit (.int .u32 1802195444), .lit (.int .u32 1303535960), .lit (.int .u32 1342533948), .lit (.int .u32 3988292384), .lit (.int .u32 4027552580), .lit (.int .u32 3604390888), .lit (.int .u32 3412177804), .lit (.int .u32 2607071920), .lit (.int .u32 2262029012), .lit (.int .u32 2685067896), .lit (.int .u32 3183342108)]

/-- 'sojournlaw6.SealKeeps': WHATEVER THE INPUT: true; the input reads as it did. -/
def sealKeepsSpec : ChangeSpec := { name := "sealKeeps", fn := fun _ => fun
  | [d1, d2] => { results := [.lit (.bool true)], args := [d1, d2] }
  | _ => none }
def sealKeepsRow : OpenClaim := { program := "ytbolcapgocjgcaadoor", sum := "5219edc5b8729268d6b7527ebf3dbc294f382e11b5709cf3f72182876125f21f", func := "sojourn/sojournlaw6.SealKeeps", spec := "sealKeeps", unfollowed := true, recurses := true, named := ["sojourn/pack.crcOf"], apart := false, laid := [("sojourn/pack.crcOf", laid_sojourn_pack_crcOf)] }
def SealKeepsSaid : Prop := sealKeepsRow.holds Tryd.pinned (OpenSpec.ofChange sealKeepsSpec)

/-- ITS FALSE NEIGHBOUR: 'it returns false'. Refute it at one input. -/
def sealKeepsWrong : ChangeSpec := { name := "sealKeeps", fn := fun _ => fun
  | [d1, d2] => { results := [.lit (.bool false)], args := [d1, d2] }
  | _ => none }
def SealKeepsWrongFalsely : Prop := sealKeepsRow.holds Tryd.pinned (OpenSpec.ofChange sealKeepsWrong)

/-- 'sojournlaw6.SealElder': WHATEVER THE INPUT: true; the input reads as it did. -/
def sealElderSpec : ChangeSpec := { name := "sealElder", fn := fun _ => fun
  | [d1, d2] => { results := [.lit (.bool true)], args := [d1, d2] }
  | _ => none }
def sealElderRow : OpenClaim := { program := "ytbolcapgocjgcaadoor", sum := "5219edc5b8729268d6b7527ebf3dbc294f382e11b5709cf3f72182876125f21f", func := "sojourn/sojournlaw6.SealElder", spec := "sealElder", unfollowed := true, recurses := true, named := ["sojourn/pack.crcOf"], apart := false, laid := [("sojourn/pack.crcOf", laid_sojourn_pack_crcOf)] }
def SealElderSaid : Prop := sealElderRow.holds Tryd.pinned (OpenSpec.ofChange sealElderSpec)

/-- ITS FALSE NEIGHBOUR: 'it returns false'. Refute it at one input. -/
def sealElderWrong : ChangeSpec := { name := "sealElder", fn := fun _ => fun
  | [d1, d2] => { results := [.lit (.bool false)], args := [d1, d2] }
  | _ => none }
def SealElderWrongFalsely : Prop := sealElderRow.holds Tryd.pinned (OpenSpec.ofChange sealElderWrong)

/-- 'sojournlaw6.SealFull': WHATEVER THE INPUT: true; the input reads as it did. -/
def sealFullSpec : ChangeSpec := { name := "sealFull", fn := fun _ => fun
  | [d1, d2, d3] => { results := [.lit (.bool true)], args := [d1, d2, d3] }
  | _ => none }
def sealFullRow : OpenClaim := { program := "ytbolcapgocjgcaadoor", sum := "5219edc5b8729268d6b7527ebf3dbc294f382e11b5709cf3f72182876125f21f", func := "sojourn/sojournlaw6.SealFull", spec := "sealFull", unfollowed := true, recurses := true, named := ["sojourn/pack.crcOf"], apart := false, laid := [("sojourn/pack.crcOf", laid_sojourn_pack_crcOf)] }
def SealFullSaid : Prop := sealFullRow.holds Tryd.pinned (OpenSpec.ofChange sealFullSpec)

/-- ITS FALSE NEIGHBOUR: 'it returns false'. Refute it at one input. -/
def sealFullWrong : ChangeSpec := { name := "sealFull", fn := fun _ => fun
  | [d1, d2, d3] => { results := [.lit (.bool false)], args := [d1, d2, d3] }
  | _ => none }
def SealFullWrongFalsely : Prop := sealFullRow.holds Tryd.pinned (OpenSpec.ofChange sealFullWrong)

/-- 'sojournlaw6.SealMany': WHATEVER THE INPUT: true; the input reads as it did. -/
def sealManySpec : ChangeSpec := { name := "sealMany", fn := fun _ => fun
  | [d] => { results := [.lit (.bool true)], args := [d] }
  | _ => none }
def sealManyRow : OpenClaim := { program := "ytbolcapgocjgcaadoor", sum := "5219edc5b8729268d6b7527ebf3dbc294f382e11b5709cf3f72182876125f21f", func := "sojourn/sojournlaw6.SealMany", spec := "sealMany", unfollowed := true, recurses := true, named := ["sojourn/pack.crcOf"], apart := false, laid := [("sojourn/pack.crcOf", laid_sojourn_pack_crcOf)] }
def SealManySaid : Prop := sealManyRow.holds Tryd.pinned (OpenSpec.ofChange sealManySpec)

/-- ITS FALSE NEIGHBOUR: 'it returns false'. Refute it at one input. -/
def sealManyWrong : ChangeSpec := { name := "sealMany", fn := fun _ => fun
  | [d] => { results := [.lit (.bool false)], args := [d] }
  | _ => none }
def SealManyWrongFalsely : Prop := sealManyRow.holds Tryd.pinned (OpenSpec.ofChange sealManyWrong)

/- THE SECOND FORM. 'bulk': how many values and letters a reading holds, each counted each time it is reached (what is shared counts as often as it is met; a slice's spare places count too). A statement '..UptoSaid' is the law's where the arguments, and the package variables that the reading takes, are together of bulk at most 1048576: NARROWER than '..Said'. Prove '..Said' where nothing that the law and all that it calls make is longer than what came in: it says more and counts as full. Else prove '..UptoSaid'. A law counts once. -/
mutual
def uptoBulk {H : Type} : DataW H → Nat
  | .lit (.string bytes) => bytes.length + 1
  | .lit _ => 1
  | .nil => 1
  | .ptr d => uptoBulk d + 1
  | .slice elems spare => uptoBulkAll elems + uptoBulkAll spare + 1
  | .agg parts => uptoBulkAll parts + 1
  | .iface _ d => uptoBulk d + 1
  | .map entries => uptoBulkEntries entries + 1
  | .held _ => 1
def uptoBulkAll {H : Type} : List (DataW H) → Nat
  | [] => 0
  | d :: r => uptoBulk d + uptoBulkAll r
def uptoBulkEntries {H : Type} : List (Lit × DataW H) → Nat
  | [] => 0
  | x :: r => uptoBulkEntry x + uptoBulkEntries r
def uptoBulkEntry {H : Type} : Lit × DataW H → Nat
  | (.string bytes, d) => bytes.length + uptoBulk d + 1
  | (_, d) => uptoBulk d + 1
 end
def uptoSmall : (H : Type) → List (DataW H) → Bool := fun _ ds => decide (uptoBulkAll ds ≤ 1048576)
def OpenSpec.upto (s : _root_.Go.ChangeSpec) : _root_.Go.OpenSpec := { _root_.Go.OpenSpec.ofChange s with cond := some uptoSmall }

/-- 'sojournlaw6.SealKeeps', WHERE WHAT IT READS IS OF BULK AT MOST 1048576: true; the input reads as it did. -/
def sealKeepsUptoRow : OpenClaim := { program := "ytbolcapgocjgcaadoor", sum := "5219edc5b8729268d6b7527ebf3dbc294f382e11b5709cf3f72182876125f21f", func := "sojourn/sojournlaw6.SealKeeps", spec := "sealKeeps", unfollowed := true, recurses := true, named := ["sojourn/pack.crcOf"], apart := false, laid := [("sojourn/pack.crcOf", laid_sojourn_pack_crcOf)], narrowed := true }
def SealKeepsUptoSaid : Prop := sealKeepsUptoRow.holds Tryd.pinned (OpenSpec.upto sealKeepsSpec)

/-- 'sojournlaw6.SealElder', WHERE WHAT IT READS IS OF BULK AT MOST 1048576: true; the input reads as it did. -/
def sealElderUptoRow : OpenClaim := { program := "ytbolcapgocjgcaadoor", sum := "5219edc5b8729268d6b7527ebf3dbc294f382e11b5709cf3f72182876125f21f", func := "sojourn/sojournlaw6.SealElder", spec := "sealElder", unfollowed := true, recurses := true, named := ["sojourn/pack.crcOf"], apart := false, laid := [("sojourn/pack.crcOf", laid_sojourn_pack_crcOf)], narrowed := true }
def SealElderUptoSaid : Prop := sealElderUptoRow.holds Tryd.pinned (OpenSpec.upto sealElderSpec)

/-- 'sojournlaw6.SealFull', WHERE WHAT IT READS IS OF BULK AT MOST 1048576: true; the input reads as it did. -/
def sealFullUptoRow : OpenClaim := { program := "ytbolcapgocjgcaadoor", sum := "5219edc5b8729268d6b7527ebf3dbc294f382e11b5709cf3f72182876125f21f", func := "sojourn/sojournlaw6.SealFull", spec := "sealFull", unfollowed := true, recurses := true, named := ["sojourn/pack.crcOf"], apart := false, laid := [("sojourn/pack.crcOf", laid_sojourn_pack_crcOf)], narrowed := true }
def SealFullUptoSaid : Prop := sealFullUptoRow.holds Tryd.pinned (OpenSpec.upto sealFullSpec)

/-- 'sojournlaw6.SealMany', WHERE WHAT IT READS IS OF BULK AT MOST 1048576: true; the input reads as it did. -/
def sealManyUptoRow : OpenClaim := { program := "ytbolcapgocjgcaadoor", sum := "5219edc5b8729268d6b7527ebf3dbc294f382e11b5709cf3f72182876125f21f", func := "sojourn/sojournlaw6.SealMany", spec := "sealMany", unfollowed := true, recurses := true, named := ["sojourn/pack.crcOf"], apart := false, laid := [("sojourn/pack.crcOf", laid_sojourn_pack_crcOf)], narrowed := true }
def SealManyUptoSaid : Prop := sealManyUptoRow.holds Tryd.pinned (OpenSpec.upto sealManySpec)

end Rows
end Go.Proofs.YtbolcapgocjgcaaDoor
