/-
  NARROWER THAN 'FOR EVERY INPUT', by the rows' own cells (each row's printed sentence says how): PackWrites: laid · PackReads: laid · PackBack: laid · PackForms: laid · PackSums: laid · PackNobody: laid · PackSmall: laid · PackWrong: laid.
  DERIVED. THE GIVEN ROWS OF THIS SEAT. 8 by the template 'for every input the law returns true; each argument reads behind the call as it read before'; 0 by the template 'total and deterministic' (their statements: YtfdgjdakaibifaaDoorTotals.lean).
  GIVEN WITH THE SEED: the statements are not yours to turn. If you find one false, say at which input.
  Laid BY PROGRAM, IN A SANDBOX (cutbox-rows.mjs): the forced cells as the released guide's own fill.sh prints them over the translation 2670347eddb09fb5… (all of the seat's roots in one cut). By AI agents, Wed Nov 11 2026. No macro, syntax, notation, axiom, sorry.
-/
import Derived.Test.YtfdgjdakaibifaaDoorChecked
import GoSem.Claim
import GoSem.ClaimJoined
import GoSem.ClaimMapViews
import Derived.JoinedTies
import Derived.KernelRfl
namespace Go.Proofs.YtfdgjdakaibifaaDoor
/- THE CELL 'sum', in the pinned program and in every row, IS THE sha256 OF THE DUMP (.gsa) THAT YtfdgjdakaibifaaDoorProg.lean LOADS. Nothing in Lean hashes anything: it is a label: what it is worth is what the hold of that sum in a sandbox is worth. -/
noncomputable def Tryd.pinned : Pinned := { name := "ytfdgjdakaibifaadoor", sum := "2670347eddb09fb5fc0afde107632c8922623350e402c7de7c04883ff27b37c2", checked := Tryd.checked }
namespace Rows
def none {H : Type} : Left H := { results := [], args := [] }

/- WHAT THE LISTED PACKAGE-LEVEL VARIABLES READ AS WHEN THE CALL BEGINS. Each datum BY PROGRAM (the guide's laid-datum.mjs) off the statement by which the dump's own 'gosem.cut.vars' lays the variable. In a bare row this is a premise. The card (YtfdgjdakaibifaaDoorCards.lean) ties it to the program's text. -/
def laid_sojourn_pack_crcOf {H : Type} : DataW H := .agg [.lit (.int .u32 0), .lit (.int .u32 498536548), .lit (.int .u32 997073096), .lit (.int .u32 651767980), .lit (.int .u32 1994146192), .lit (.int .u32 1802195444), .lit (.int .u32 1303535960), .lit (.int .u32 1342533948), .lit (.int .u32 3988292384), .lit (.int .u32 4027552580), .lit (.int .u32 3604390888), .lit (.int .u32 3412177804), .lit (.int .u32 2607071920), .lit (.int .u32 2262029012), .lit (.int .u32 2685067896), .lit (.int .u32 3183342108)]

/-- 'sojournlaw1.PackWrites': WHATEVER THE INPUT: true; the input reads as it did. -/
def packWritesSpec : ChangeSpec := { name := "packWrites", fn := fun _ => fun
  | [d] => { results := [.lit (.bool true)], args := [d] }
  | _ => none }
def packWritesRow : OpenClaim := { program := "ytfdgjdakaibifaadoor", sum := "2670347eddb09fb5fc0afde107632c8922623350e402c7de7c04883ff27b37c2", func := "sojourn/sojournlaw1.PackWrites", spec := "packWrites", named := ["sojourn/pack.crcOf"], apart := false, laid := [("sojourn/pack.crcOf", laid_sojourn_pack_crcOf)] }
def PackWritesSaid : Prop := packWritesRow.holds Tryd.pinned (OpenSpec.ofChange packWritesSpec)

/-- ITS FALSE NEIGHBOUR: 'it returns false'. Refute it at one input. -/
def packWritesWrong : ChangeSpec := { name := "packWrites", fn := fun _ => fun
  | [d] => { results := [.lit (.bool false)], args := [d] }
  | _ => none }
def PackWritesWrongFalsely : Prop := packWritesRow.holds Tryd.pinned (OpenSpec.ofChange packWritesWrong)

/-- 'sojournlaw1.PackReads': WHATEVER THE INPUT: true; the input reads as it did. -/
def packReadsSpec : ChangeSpec := { name := "packReads", fn := fun _ => fun
  | [d1, d2] => { results := [.lit (.bool true)], args := [d1, d2] }
  | _ => none }
def packReadsRow : OpenClaim := { program := "ytfdgjdakaibifaadoor", sum := "2670347eddb09fb5fc0afde107632c8922623350e402c7de7c04883ff27b37c2", func := "sojourn/sojournlaw1.PackReads", spec := "packReads", named := ["sojourn/pack.crcOf"], apart := false, laid := [("sojourn/pack.crcOf", laid_sojourn_pack_crcOf)] }
def PackReadsSaid : Prop := packReadsRow.holds Tryd.pinned (OpenSpec.ofChange packReadsSpec)

/-- ITS FALSE NEIGHBOUR: 'it returns false'. Refute it at one input. -/
def packReadsWrong : ChangeSpec := { name := "packReads", fn := fun _ => fun
  | [d1, d2] => { results := [.lit (.bool false)], args := [d1, d2] }
  | _ => none }
def PackReadsWrongFalsely : Prop := packReadsRow.holds Tryd.pinned (OpenSpec.ofChange packReadsWrong)

/-- 'sojournlaw1.PackBack': WHATEVER THE INPUT: true; the input reads as it did. -/
def packBackSpec : ChangeSpec := { name := "packBack", fn := fun _ => fun
  | [d1, d2] => { results := [.lit (.bool true)], args := [d1, d2] }
  | _ => none }
def packBackRow : OpenClaim := { program := "ytfdgjdakaibifaadoor", sum := "2670347eddb09fb5fc0afde107632c8922623350e402c7de7c04883ff27b37c2", func := "sojourn/sojournlaw1.PackBack", spec := "packBack", named := ["sojourn/pack.crcOf"], apart := false, laid := [("sojourn/pack.crcOf", laid_sojourn_pack_crcOf)] }
def PackBackSaid : Prop := packBackRow.holds Tryd.pinned (OpenSpec.ofChange packBackSpec)

/-- ITS FALSE NEIGHBOUR: 'it returns false'. Refute it at one input. -/
def packBackWrong : ChangeSpec := { name := "packBack", fn := fun _ => fun
  | [d1, d2] => { results := [.lit (.bool false)], args := [d1, d2] }
  | _ => none }
def PackBackWrongFalsely : Prop := packBackRow.holds Tryd.pinned (OpenSpec.ofChange packBackWrong)

/-- 'sojournlaw1.PackForms': WHATEVER THE INPUT: true; the input reads as it did. -/
def packFormsSpec : ChangeSpec := { name := "packForms", fn := fun _ => fun
  | [d1, d2, d3, d4] => { results := [.lit (.bool true)], args := [d1, d2, d3, d4] }
  | _ => none }
def packFormsRow : OpenClaim := { program := "ytfdgjdakaibifaadoor", sum := "2670347eddb09fb5fc0afde107632c8922623350e402c7de7c04883ff27b37c2", func := "sojourn/sojournlaw1.PackForms", spec := "packForms", named := ["sojourn/pack.crcOf"], apart := false, laid := [("sojourn/pack.crcOf", laid_sojourn_pack_crcOf)] }
def PackFormsSaid : Prop := packFormsRow.holds Tryd.pinned (OpenSpec.ofChange packFormsSpec)

/-- ITS FALSE NEIGHBOUR: 'it returns false'. Refute it at one input. -/
def packFormsWrong : ChangeSpec := { name := "packForms", fn := fun _ => fun
  | [d1, d2, d3, d4] => { results := [.lit (.bool false)], args := [d1, d2, d3, d4] }
  | _ => none }
def PackFormsWrongFalsely : Prop := packFormsRow.holds Tryd.pinned (OpenSpec.ofChange packFormsWrong)

/-- 'sojournlaw1.PackSums': WHATEVER THE INPUT: true; the input reads as it did. -/
def packSumsSpec : ChangeSpec := { name := "packSums", fn := fun _ => fun
  | [d1, d2, d3] => { results := [.lit (.bool true)], args := [d1, d2, d3] }
  | _ => none }
def packSumsRow : OpenClaim := { program := "ytfdgjdakaibifaadoor", sum := "2670347eddb09fb5fc0afde107632c8922623350e402c7de7c04883ff27b37c2", func := "sojourn/sojournlaw1.PackSums", spec := "packSums", named := ["sojourn/pack.crcOf"], apart := false, laid := [("sojourn/pack.crcOf", laid_sojourn_pack_crcOf)] }
def PackSumsSaid : Prop := packSumsRow.holds Tryd.pinned (OpenSpec.ofChange packSumsSpec)

/-- ITS FALSE NEIGHBOUR: 'it returns false'. Refute it at one input. -/
def packSumsWrong : ChangeSpec := { name := "packSums", fn := fun _ => fun
  | [d1, d2, d3] => { results := [.lit (.bool false)], args := [d1, d2, d3] }
  | _ => none }
def PackSumsWrongFalsely : Prop := packSumsRow.holds Tryd.pinned (OpenSpec.ofChange packSumsWrong)

/-- 'sojournlaw1.PackNobody': WHATEVER THE INPUT: true; the input reads as it did. -/
def packNobodySpec : ChangeSpec := { name := "packNobody", fn := fun _ => fun
  | [d1, d2] => { results := [.lit (.bool true)], args := [d1, d2] }
  | _ => none }
def packNobodyRow : OpenClaim := { program := "ytfdgjdakaibifaadoor", sum := "2670347eddb09fb5fc0afde107632c8922623350e402c7de7c04883ff27b37c2", func := "sojourn/sojournlaw1.PackNobody", spec := "packNobody", named := ["sojourn/pack.crcOf"], apart := false, laid := [("sojourn/pack.crcOf", laid_sojourn_pack_crcOf)] }
def PackNobodySaid : Prop := packNobodyRow.holds Tryd.pinned (OpenSpec.ofChange packNobodySpec)

/-- ITS FALSE NEIGHBOUR: 'it returns false'. Refute it at one input. -/
def packNobodyWrong : ChangeSpec := { name := "packNobody", fn := fun _ => fun
  | [d1, d2] => { results := [.lit (.bool false)], args := [d1, d2] }
  | _ => none }
def PackNobodyWrongFalsely : Prop := packNobodyRow.holds Tryd.pinned (OpenSpec.ofChange packNobodyWrong)

/-- 'sojournlaw1.PackSmall': WHATEVER THE INPUT: true; the input reads as it did. -/
def packSmallSpec : ChangeSpec := { name := "packSmall", fn := fun _ => fun
  | [d] => { results := [.lit (.bool true)], args := [d] }
  | _ => none }
def packSmallRow : OpenClaim := { program := "ytfdgjdakaibifaadoor", sum := "2670347eddb09fb5fc0afde107632c8922623350e402c7de7c04883ff27b37c2", func := "sojourn/sojournlaw1.PackSmall", spec := "packSmall", named := ["sojourn/pack.crcOf"], apart := false, laid := [("sojourn/pack.crcOf", laid_sojourn_pack_crcOf)] }
def PackSmallSaid : Prop := packSmallRow.holds Tryd.pinned (OpenSpec.ofChange packSmallSpec)

/-- ITS FALSE NEIGHBOUR: 'it returns false'. Refute it at one input. -/
def packSmallWrong : ChangeSpec := { name := "packSmall", fn := fun _ => fun
  | [d] => { results := [.lit (.bool false)], args := [d] }
  | _ => none }
def PackSmallWrongFalsely : Prop := packSmallRow.holds Tryd.pinned (OpenSpec.ofChange packSmallWrong)

/-- 'sojournlaw1.PackWrong': WHATEVER THE INPUT: true; the input reads as it did. -/
def packWrongSpec : ChangeSpec := { name := "packWrong", fn := fun _ => fun
  | [d1, d2] => { results := [.lit (.bool true)], args := [d1, d2] }
  | _ => none }
def packWrongRow : OpenClaim := { program := "ytfdgjdakaibifaadoor", sum := "2670347eddb09fb5fc0afde107632c8922623350e402c7de7c04883ff27b37c2", func := "sojourn/sojournlaw1.PackWrong", spec := "packWrong", named := ["sojourn/pack.crcOf"], apart := false, laid := [("sojourn/pack.crcOf", laid_sojourn_pack_crcOf)] }
def PackWrongSaid : Prop := packWrongRow.holds Tryd.pinned (OpenSpec.ofChange packWrongSpec)

/-- ITS FALSE NEIGHBOUR: 'it returns false'. Refute it at one input. -/
def packWrongWrong : ChangeSpec := { name := "packWrong", fn := fun _ => fun
  | [d1, d2] => { results := [.lit (.bool false)], args := [d1, d2] }
  | _ => none }
def PackWrongWrongFalsely : Prop := packWrongRow.holds Tryd.pinned (OpenSpec.ofChange packWrongWrong)

/- THE SECOND FORM. 'bulk': how many values and letters a reading holds, each counted each time it is reached (what is shared counts as often as it is met; a slice's spare places count too). A statement '..UptoSaid' is the law's where the arguments, and the package variables that the reading takes, are together of bulk at most 1048576: NARROWER than '..Said'. Prove '..Said' where nothing that the law and all that it calls make is longer than what came in: it says more and counts as full. Else prove '..UptoSaid'. A law counts once. -/
mutual
def uptoBulk {H : Type} : DataW H → Nat
  | .lit (.string bytes) => bytes.length + 1
  | .lit _ => 1
  | .nil => 1
  | .ptr d => uptoBulk d + 1
  | .slice elems spare => uptoBulkAll elems + uptoBulkAll spare + 1
  | .agg parts => uptoBulkAll parts + 1
  | .iface _ d => uptoBulk d + 1
  | .map entries => uptoBulkEntries entries + 1
  | .held _ => 1
def uptoBulkAll {H : Type} : List (DataW H) → Nat
  | [] => 0
  | d :: r => uptoBulk d + uptoBulkAll r
def uptoBulkEntries {H : Type} : List (Lit × DataW H) → Nat
  | [] => 0
  | x :: r => uptoBulkEntry x + uptoBulkEntries r
def uptoBulkEntry {H : Type} : Lit × DataW H → Nat
  | (.string bytes, d) => bytes.length + uptoBulk d + 1
  | (_, d) => uptoBulk d + 1
 end
def uptoSmall : (H : Type) → List (DataW H) → Bool := fun _ ds => decide (uptoBulkAll ds ≤ 1048576)
def OpenSpec.upto (s : _root_.Go.ChangeSpec) : _root_.Go.OpenSpec := { _root_.Go.OpenSpec.ofChange s with cond := some uptoSmall }

/-- 'sojournlaw1.PackWrites', WHERE WHAT IT READS IS OF BULK AT MOST 1048576: true; the input reads as it did. -/
def packWritesUptoRow : OpenClaim := { program := "ytfdgjdakaibifaadoor", sum := "2670347eddb09fb5fc0afde107632c8922623350e402c7de7c04883ff27b37c2", func := "sojourn/sojournlaw1.PackWrites", spec := "packWrites", named := ["sojourn/pack.crcOf"], apart := false, laid := [("sojourn/pack.crcOf", laid_sojourn_pack_crcOf)], narrowed := true }
def PackWritesUptoSaid : Prop := packWritesUptoRow.holds Tryd.pinned (OpenSpec.upto packWritesSpec)

/-- 'sojournlaw1.PackReads', WHERE WHAT IT READS IS OF BULK AT MOST 1048576: true; the input reads as it did. -/
def packReadsUptoRow : OpenClaim := { program := "ytfdgjdakaibifaadoor", sum := "2670347eddb09fb5fc0afde107632c8922623350e402c7de7c04883ff27b37c2", func := "sojourn/sojournlaw1.PackReads", spec := "packReads", named := ["sojourn/pack.crcOf"], apart := false, laid := [("sojourn/pack.crcOf", laid_sojourn_pack_crcOf)], narrowed := true }
def PackReadsUptoSaid : Prop := packReadsUptoRow.holds Tryd.pinned (OpenSpec.upto packReadsSpec)

/-- 'sojournlaw1.PackBack', WHERE WHAT IT READS IS OF BULK AT MOST 1048576: true; the input reads as it did. -/
def packBackUptoRow : OpenClaim := { program := "ytfdgjdakaibifaadoor", sum := "2670347eddb09fb5fc0afde107632c8922623350e402c7de7c04883ff27b37c2", func := "sojourn/sojournlaw1.PackBack", spec := "packBack", named := ["sojourn/pack.crcOf"], apart := false, laid := [("sojourn/pack.crcOf", laid_sojourn_pack_crcOf)], narrowed := true }
def PackBackUptoSaid : Prop := packBackUptoRow.holds Tryd.pinned (OpenSpec.upto packBackSpec)

/-- 'sojournlaw1.PackForms', WHERE WHAT IT READS IS OF BULK AT MOST 1048576: true; the input reads as it did. -/
def packFormsUptoRow : OpenClaim := { program := "ytfdgjdakaibifaadoor", sum := "2670347eddb09fb5fc0afde107632c8922623350e402c7de7c04883ff27b37c2", func := "sojourn/sojournlaw1.PackForms", spec := "packForms", named := ["sojourn/pack.crcOf"], apart := false, laid := [("sojourn/pack.crcOf", laid_sojourn_pack_crcOf)], narrowed := true }
def PackFormsUptoSaid : Prop := packFormsUptoRow.holds Tryd.pinned (OpenSpec.upto packFormsSpec)

/-- 'sojournlaw1.PackSums', WHERE WHAT IT READS IS OF BULK AT MOST 1048576: true; the input reads as it did. -/
def packSumsUptoRow : OpenClaim := { program := "ytfdgjdakaibifaadoor", sum := "2670347eddb09fb5fc0afde107632c8922623350e402c7de7c04883ff27b37c2", func := "sojourn/sojournlaw1.PackSums", spec := "packSums", named := ["sojourn/pack.crcOf"], apart := false, laid := [("sojourn/pack.crcOf", laid_sojourn_pack_crcOf)], narrowed := true }
def PackSumsUptoSaid : Prop := packSumsUptoRow.holds Tryd.pinned (OpenSpec.upto packSumsSpec)

/-- 'sojournlaw1.PackNobody', WHERE WHAT IT READS IS OF BULK AT MOST 1048576: true; the input reads as it did. -/
def packNobodyUptoRow : OpenClaim := { program := "ytfdgjdakaibifaadoor", sum := "2670347eddb09fb5fc0afde107632c8922623350e402c7de7c04883ff27b37c2", func := "sojourn/sojournlaw1.PackNobody", spec := "packNobody", named := ["sojourn/pack.crcOf"], apart := false, laid := [("sojourn/pack.crcOf", laid_sojourn_pack_crcOf)], narrowed := true }
def PackNobodyUptoSaid : Prop := packNobodyUptoRow.holds Tryd.pinned (OpenSpec.upto packNobodySpec)

/-- 'sojournlaw1.PackSmall', WHERE WHAT IT READS IS OF BULK AT MOST 1048576: true; the input reads as it did. -/
def packSmallUptoRow : OpenClaim := { program := "ytfdgjdakaibifaadoor", sum := "2670347eddb09fb5fc0afde107632c8922623350e402c7de7c04883ff27b37c2", func := "sojourn/sojournlaw1.PackSmall", spec := "packSmall", named := ["sojourn/pack.crcOf"], apart := false, laid := [("sojourn/pack.crcOf", laid_sojourn_pack_crcOf)], narrowed := true }
def PackSmallUptoSaid : Prop := packSmallUptoRow.holds Tryd.pinned (OpenSpec.upto packSmallSpec)

/-- 'sojournlaw1.PackWrong', WHERE WHAT IT READS IS OF BULK AT MOST 1048576: true; the input reads as it did. -/
def packWrongUptoRow : OpenClaim := { program := "ytfdgjdakaibifaadoor", sum := "2670347eddb09fb5fc0afde107632c8922623350e402c7de7c04883ff27b37c2", func := "sojourn/sojournlaw1.PackWrong", spec := "packWrong", named := ["sojourn/pack.crcOf"], apart := false, laid := [("sojourn/pack.crcOf", laid_sojourn_pack_crcOf)], narrowed := true }
def PackWrongUptoSaid : Prop := packWrongUptoRow.holds Tryd.pinned (OpenSpec.upto packWrongSpec)

end Rows
end Go.Proofs.YtfdgjdakaibifaaDoor
