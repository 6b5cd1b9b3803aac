/-
  DERIVED. GIVEN WITH THE SEED: THE CARDS: each row of YtpkdigegkemogaaGreatDoorRows.lean that lists a variable, with what it lists TIED to the program's text (the seventh form; the later family's looks); each row that meets fmt, with fmt's text TOLD by the authors' own Lean function (tested against real Go, not proved from fmt's source: count such statements apart). THE CARD IS WHAT COUNTS. Prove the row's statement (the work); the ties are given (YtpkdigegkemogaaGreatDoorTie.lean); close each card by the builder's one call (the guide's Derived/Test/ToyasCard.lean, 'card_holds'). Laid BY PROGRAM, IN A SANDBOX (cutbox-door.mjs). By AI agents, Wed Nov 11 2026. No macro, syntax, notation, axiom, sorry.
-/
import Derived.Test.YtpkdigegkemogaaGreatDoorRows
import GoSem.ClaimSeven
namespace Go.Proofs.YtpkdigegkemogaaGreatDoor
namespace Rows

/-- THE TIED CARD OF 'sojournlaw18.FoldTimes'. -/
def foldTimesCard : Claim7 := { stood := { row := foldTimesRow, standIns := [], harness := (true, "b808a2be46cadf6def030b946a1bb33470be7087cdfcc7b10dc66031ac3a5351"), looks := true }, kinds := [], alts := [], laidByText := true, laidKinds := [.data], laidTests := true, laidLooks := .later }
def FoldTimesCardSaid : Prop := Claim7.holds Tryz.pinned (.plain (OpenSpec.ofChange foldTimesSpec)) foldTimesCard

/-- THE TIED CARD OF 'sojournlaw18.FoldParts'. -/
def foldPartsCard : Claim7 := { stood := { row := foldPartsRow, standIns := [], harness := (true, "b808a2be46cadf6def030b946a1bb33470be7087cdfcc7b10dc66031ac3a5351"), looks := true }, kinds := [], alts := [], laidByText := true, laidKinds := [.data], laidTests := true, laidLooks := .later }
def FoldPartsCardSaid : Prop := Claim7.holds Tryz.pinned (.plain (OpenSpec.ofChange foldPartsSpec)) foldPartsCard

/-- THE SECOND FORM's CARD OF 'sojournlaw18.FoldTimes'. -/
def foldTimesUptoCard : Claim7 := { stood := { row := foldTimesUptoRow, standIns := [], harness := (true, "b808a2be46cadf6def030b946a1bb33470be7087cdfcc7b10dc66031ac3a5351"), looks := true }, kinds := [], alts := [], laidByText := true, laidKinds := [.data], laidTests := true, laidLooks := .later }
def FoldTimesUptoCardSaid : Prop := Claim7.holds Tryz.pinned (.plain (OpenSpec.upto foldTimesSpec)) foldTimesUptoCard

/-- THE SECOND FORM's CARD OF 'sojournlaw18.FoldParts'. -/
def foldPartsUptoCard : Claim7 := { stood := { row := foldPartsUptoRow, standIns := [], harness := (true, "b808a2be46cadf6def030b946a1bb33470be7087cdfcc7b10dc66031ac3a5351"), looks := true }, kinds := [], alts := [], laidByText := true, laidKinds := [.data], laidTests := true, laidLooks := .later }
def FoldPartsUptoCardSaid : Prop := Claim7.holds Tryz.pinned (.plain (OpenSpec.upto foldPartsSpec)) foldPartsUptoCard
end Rows
end Go.Proofs.YtpkdigegkemogaaGreatDoor
