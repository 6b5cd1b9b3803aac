/-
  NARROWER THAN 'FOR EVERY INPUT', by the rows' own cells (each row's printed sentence says how): FrameAsks: laid · FrameTorn: laid · FrameTurned: laid · FrameBounds: laid · FramePlaces: laid.
  DERIVED. THE GIVEN ROWS OF THIS SEAT. 5 by the template 'for every input the law returns true; each argument reads behind the call as it read before'; 0 by the template 'total and deterministic' (their statements: YthadgeihkeggfaaDoorTotals.lean).
  GIVEN WITH THE SEED: the statements are not yours to turn. If you find one false, say at which input.
  Laid BY PROGRAM, IN A SANDBOX (cutbox-rows.mjs): the forced cells as the released guide's own fill.sh prints them over the translation 8a23bd80f82262c1… (all of the seat's roots in one cut). By AI agents, Wed Nov 11 2026. No macro, syntax, notation, axiom, sorry.
-/
import Derived.Test.YthadgeihkeggfaaDoorChecked
import GoSem.Claim
import GoSem.ClaimJoined
import GoSem.ClaimMapViews
import Derived.JoinedTies
import Derived.KernelRfl
namespace Go.Proofs.YthadgeihkeggfaaDoor
/- THE CELL 'sum', in the pinned program and in every row, IS THE sha256 OF THE DUMP (.gsa) THAT YthadgeihkeggfaaDoorProg.lean LOADS. Nothing in Lean hashes anything: it is a label: what it is worth is what the hold of that sum in a sandbox is worth. -/
noncomputable def Tryd.pinned : Pinned := { name := "ythadgeihkeggfaadoor", sum := "8a23bd80f82262c1c432f5bbb2ea6d8f7815249fa3534985132025f80ee7bfe6", checked := Tryd.checked }
namespace Rows
def none {H : Type} : Left H := { results := [], args := [] }

/- WHAT THE LISTED PACKAGE-LEVEL VARIABLES READ AS WHEN THE CALL BEGINS. Each datum BY PROGRAM (the guide's laid-datum.mjs) off the statement by which the dump's own 'gosem.cut.vars' lays the variable. In a bare row this is a premise. The card (YthadgeihkeggfaaDoorCards.lean) ties it to the program's text. -/
def laid_sojourn_pack_crcOf {H : Type} : DataW H := .agg [.lit (.int .u32 0), .lit (.int .u32 498536548), .lit (.int .u32 997073096), .lit (.int .u32 651767980), .lit (.int .u32 1994146192), .lit (.int .u32 1802195444), .lit (.int .u32 1303535960), .lit (.int .u32 1342533948), .lit (.int .u32 3988292384), .lit (.int .u32 4027552580), .lit (.int .u32 3604390888), .lit (.int .u32 3412177804), .lit (.int .u32 2607071920), .lit (.int .u32 2262029012), .lit (.int .u32 2685067896), .lit (.int .u32 3183342108)]

/-- 'sojournlaw4.FrameAsks': WHATEVER THE INPUT: true; the input reads as it did. -/
def frameAsksSpec : ChangeSpec := { name := "frameAsks", fn := fun _ => fun
  | [d1, d2, d3] => { results := [.lit (.bool true)], args := [d1, d2, d3] }
  | _ => none }
def frameAsksRow : OpenClaim := { program := "ythadgeihkeggfaadoor", sum := "8a23bd80f82262c1c432f5bbb2ea6d8f7815249fa3534985132025f80ee7bfe6", func := "sojourn/sojournlaw4.FrameAsks", spec := "frameAsks", unfollowed := true, recurses := true, named := ["sojourn/pack.crcOf"], apart := false, laid := [("sojourn/pack.crcOf", laid_sojourn_pack_crcOf)] }
def FrameAsksSaid : Prop := frameAsksRow.holds Tryd.pinned (OpenSpec.ofChange frameAsksSpec)

/-- ITS FALSE NEIGHBOUR: 'it returns false'. Refute it at one input. -/
def frameAsksWrong : ChangeSpec := { name := "frameAsks", fn := fun _ => fun
  | [d1, d2, d3] => { results := [.lit (.bool false)], args := [d1, d2, d3] }
  | _ => none }
def FrameAsksWrongFalsely : Prop := frameAsksRow.holds Tryd.pinned (OpenSpec.ofChange frameAsksWrong)

/-- 'sojournlaw4.FrameTorn': WHATEVER THE INPUT: true; the input reads as it did. -/
def frameTornSpec : ChangeSpec := { name := "frameTorn", fn := fun _ => fun
  | [d1, d2] => { results := [.lit (.bool true)], args := [d1, d2] }
  | _ => none }
def frameTornRow : OpenClaim := { program := "ythadgeihkeggfaadoor", sum := "8a23bd80f82262c1c432f5bbb2ea6d8f7815249fa3534985132025f80ee7bfe6", func := "sojourn/sojournlaw4.FrameTorn", spec := "frameTorn", unfollowed := true, recurses := true, named := ["sojourn/pack.crcOf"], apart := false, laid := [("sojourn/pack.crcOf", laid_sojourn_pack_crcOf)] }
def FrameTornSaid : Prop := frameTornRow.holds Tryd.pinned (OpenSpec.ofChange frameTornSpec)

/-- ITS FALSE NEIGHBOUR: 'it returns false'. Refute it at one input. -/
def frameTornWrong : ChangeSpec := { name := "frameTorn", fn := fun _ => fun
  | [d1, d2] => { results := [.lit (.bool false)], args := [d1, d2] }
  | _ => none }
def FrameTornWrongFalsely : Prop := frameTornRow.holds Tryd.pinned (OpenSpec.ofChange frameTornWrong)

/-- 'sojournlaw4.FrameTurned': WHATEVER THE INPUT: true; the input reads as it did. -/
def frameTurnedSpec : ChangeSpec := { name := "frameTurned", fn := fun _ => fun
  | [d1, d2, d3, d4] => { results := [.lit (.bool true)], args := [d1, d2, d3, d4] }
  | _ => none }
def frameTurnedRow : OpenClaim := { program := "ythadgeihkeggfaadoor", sum := "8a23bd80f82262c1c432f5bbb2ea6d8f7815249fa3534985132025f80ee7bfe6", func := "sojourn/sojournlaw4.FrameTurned", spec := "frameTurned", unfollowed := true, recurses := true, named := ["sojourn/pack.crcOf"], apart := false, laid := [("sojourn/pack.crcOf", laid_sojourn_pack_crcOf)] }
def FrameTurnedSaid : Prop := frameTurnedRow.holds Tryd.pinned (OpenSpec.ofChange frameTurnedSpec)

/-- ITS FALSE NEIGHBOUR: 'it returns false'. Refute it at one input. -/
def frameTurnedWrong : ChangeSpec := { name := "frameTurned", fn := fun _ => fun
  | [d1, d2, d3, d4] => { results := [.lit (.bool false)], args := [d1, d2, d3, d4] }
  | _ => none }
def FrameTurnedWrongFalsely : Prop := frameTurnedRow.holds Tryd.pinned (OpenSpec.ofChange frameTurnedWrong)

/-- 'sojournlaw4.FrameBounds': WHATEVER THE INPUT: true; the input reads as it did. -/
def frameBoundsSpec : ChangeSpec := { name := "frameBounds", fn := fun _ => fun
  | [d] => { results := [.lit (.bool true)], args := [d] }
  | _ => none }
def frameBoundsRow : OpenClaim := { program := "ythadgeihkeggfaadoor", sum := "8a23bd80f82262c1c432f5bbb2ea6d8f7815249fa3534985132025f80ee7bfe6", func := "sojourn/sojournlaw4.FrameBounds", spec := "frameBounds", unfollowed := true, recurses := true, named := ["sojourn/pack.crcOf"], apart := false, laid := [("sojourn/pack.crcOf", laid_sojourn_pack_crcOf)] }
def FrameBoundsSaid : Prop := frameBoundsRow.holds Tryd.pinned (OpenSpec.ofChange frameBoundsSpec)

/-- ITS FALSE NEIGHBOUR: 'it returns false'. Refute it at one input. -/
def frameBoundsWrong : ChangeSpec := { name := "frameBounds", fn := fun _ => fun
  | [d] => { results := [.lit (.bool false)], args := [d] }
  | _ => none }
def FrameBoundsWrongFalsely : Prop := frameBoundsRow.holds Tryd.pinned (OpenSpec.ofChange frameBoundsWrong)

/-- 'sojournlaw4.FramePlaces': WHATEVER THE INPUT: true; the input reads as it did. -/
def framePlacesSpec : ChangeSpec := { name := "framePlaces", fn := fun _ => fun
  | [d] => { results := [.lit (.bool true)], args := [d] }
  | _ => none }
def framePlacesRow : OpenClaim := { program := "ythadgeihkeggfaadoor", sum := "8a23bd80f82262c1c432f5bbb2ea6d8f7815249fa3534985132025f80ee7bfe6", func := "sojourn/sojournlaw4.FramePlaces", spec := "framePlaces", unfollowed := true, recurses := true, named := ["sojourn/pack.crcOf"], apart := false, laid := [("sojourn/pack.crcOf", laid_sojourn_pack_crcOf)] }
def FramePlacesSaid : Prop := framePlacesRow.holds Tryd.pinned (OpenSpec.ofChange framePlacesSpec)

/-- ITS FALSE NEIGHBOUR: 'it returns false'. Refute it at one input. -/
def framePlacesWrong : ChangeSpec := { name := "framePlaces", fn := fun _ => fun
  | [d] => { results := [.lit (.bool false)], args := [d] }
  | _ => none }
def FramePlacesWrongFalsely : Prop := framePlacesRow.holds Tryd.pinned (OpenSpec.ofChange framePlacesWrong)

/- THE SECOND FORM. 'bulk': how many values and letters a reading holds, each counted each time it is reached (what is shared counts as often as it is met; a slice's spare places count too). A statement '..UptoSaid' is the law's where the arguments, and the package variables that the reading takes, are together of bulk at most 1048576: NARROWER than '..Said'. Prove '..Said' where nothing that the law and all that it calls make is longer than what came in: it says more and counts as full. Else prove '..UptoSaid'. A law counts once. -/
mutual
def uptoBulk {H : Type} : DataW H → Nat
  | .lit (.string bytes) => bytes.length + 1
  | .lit _ => 1
  | .nil => 1
  | .ptr d => uptoBulk d + 1
  | .slice elems spare => uptoBulkAll elems + uptoBulkAll spare + 1
  | .agg parts => uptoBulkAll parts + 1
  | .iface _ d => uptoBulk d + 1
  | .map entries => uptoBulkEntries entries + 1
  | .held _ => 1
def uptoBulkAll {H : Type} : List (DataW H) → Nat
  | [] => 0
  | d :: r => uptoBulk d + uptoBulkAll r
def uptoBulkEntries {H : Type} : List (Lit × DataW H) → Nat
  | [] => 0
  | x :: r => uptoBulkEntry x + uptoBulkEntries r
def uptoBulkEntry {H : Type} : Lit × DataW H → Nat
  | (.string bytes, d) => bytes.length + uptoBulk d + 1
  | (_, d) => uptoBulk d + 1
 end
def uptoSmall : (H : Type) → List (DataW H) → Bool := fun _ ds => decide (uptoBulkAll ds ≤ 1048576)
def OpenSpec.upto (s : _root_.Go.ChangeSpec) : _root_.Go.OpenSpec := { _root_.Go.OpenSpec.ofChange s with cond := some uptoSmall }

/-- 'sojournlaw4.FrameAsks', WHERE WHAT IT READS IS OF BULK AT MOST 1048576: true; the input reads as it did. -/
def frameAsksUptoRow : OpenClaim := { program := "ythadgeihkeggfaadoor", sum := "8a23bd80f82262c1c432f5bbb2ea6d8f7815249fa3534985132025f80ee7bfe6", func := "sojourn/sojournlaw4.FrameAsks", spec := "frameAsks", unfollowed := true, recurses := true, named := ["sojourn/pack.crcOf"], apart := false, laid := [("sojourn/pack.crcOf", laid_sojourn_pack_crcOf)], narrowed := true }
def FrameAsksUptoSaid : Prop := frameAsksUptoRow.holds Tryd.pinned (OpenSpec.upto frameAsksSpec)

/-- 'sojournlaw4.FrameTorn', WHERE WHAT IT READS IS OF BULK AT MOST 1048576: true; the input reads as it did. -/
def frameTornUptoRow : OpenClaim := { program := "ythadgeihkeggfaadoor", sum := "8a23bd80f82262c1c432f5bbb2ea6d8f7815249fa3534985132025f80ee7bfe6", func := "sojourn/sojournlaw4.FrameTorn", spec := "frameTorn", unfollowed := true, recurses := true, named := ["sojourn/pack.crcOf"], apart := false, laid := [("sojourn/pack.crcOf", laid_sojourn_pack_crcOf)], narrowed := true }
def FrameTornUptoSaid : Prop := frameTornUptoRow.holds Tryd.pinned (OpenSpec.upto frameTornSpec)

/-- 'sojournlaw4.FrameTurned', WHERE WHAT IT READS IS OF BULK AT MOST 1048576: true; the input reads as it did. -/
def frameTurnedUptoRow : OpenClaim := { program := "ythadgeihkeggfaadoor", sum := "8a23bd80f82262c1c432f5bbb2ea6d8f7815249fa3534985132025f80ee7bfe6", func := "sojourn/sojournlaw4.FrameTurned", spec := "frameTurned", unfollowed := true, recurses := true, named := ["sojourn/pack.crcOf"], apart := false, laid := [("sojourn/pack.crcOf", laid_sojourn_pack_crcOf)], narrowed := true }
def FrameTurnedUptoSaid : Prop := frameTurnedUptoRow.holds Tryd.pinned (OpenSpec.upto frameTurnedSpec)

/-- 'sojournlaw4.FrameBounds', WHERE WHAT IT READS IS OF BULK AT MOST 1048576: true; the input reads as it did. -/
def frameBoundsUptoRow : OpenClaim := { program := "ythadgeihkeggfaadoor", sum := "8a23bd80f82262c1c432f5bbb2ea6d8f7815249fa3534985132025f80ee7bfe6", func := "sojourn/sojournlaw4.FrameBounds", spec := "frameBounds", unfollowed := true, recurses := true, named := ["sojourn/pack.crcOf"], apart := false, laid := [("sojourn/pack.crcOf", laid_sojourn_pack_crcOf)], narrowed := true }
def FrameBoundsUptoSaid : Prop := frameBoundsUptoRow.holds Tryd.pinned (OpenSpec.upto frameBoundsSpec)

/-- 'sojournlaw4.FramePlaces', WHERE WHAT IT READS IS OF BULK AT MOST 1048576: true; the input reads as it did. -/
def framePlacesUptoRow : OpenClaim := { program := "ythadgeihkeggfaadoor", sum := "8a23bd80f82262c1c432f5bbb2ea6d8f7815249fa3534985132025f80ee7bfe6", func := "sojourn/sojournlaw4.FramePlaces", spec := "framePlaces", unfollowed := true, recurses := true, named := ["sojourn/pack.crcOf"], apart := false, laid := [("sojourn/pack.crcOf", laid_sojourn_pack_crcOf)], narrowed := true }
def FramePlacesUptoSaid : Prop := framePlacesUptoRow.holds Tryd.pinned (OpenSpec.upto framePlacesSpec)

end Rows
end Go.Proofs.YthadgeihkeggfaaDoor
