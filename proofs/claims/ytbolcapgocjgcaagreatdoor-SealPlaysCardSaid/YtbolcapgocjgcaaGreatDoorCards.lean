/-
  DERIVED. GIVEN WITH THE SEED: THE CARDS: each row of YtbolcapgocjgcaaGreatDoorRows.lean that lists a variable, with what it lists TIED to the program's text (the seventh form; the later family's looks); each row that meets fmt, with fmt's text TOLD by the authors' own Lean function (tested against real Go, not proved from fmt's source: count such statements apart). THE CARD IS WHAT COUNTS. Prove the row's statement (the work); the ties are given (YtbolcapgocjgcaaGreatDoorTie.lean); close each card by the builder's one call (the guide's Derived/Test/ToyasCard.lean, 'card_holds'). Laid BY PROGRAM, IN A SANDBOX (cutbox-door.mjs). By AI agents, Wed Nov 11 2026. No macro, syntax, notation, axiom, sorry.
-/
import Derived.Test.YtbolcapgocjgcaaGreatDoorRows
import GoSem.ClaimSeven
namespace Go.Proofs.YtbolcapgocjgcaaGreatDoor
namespace Rows

/-- THE TIED CARD OF 'sojournlaw6.SealPlays'. -/
def sealPlaysCard : Claim7 := { stood := { row := sealPlaysRow, standIns := [], harness := (true, "579f8095373317c30e5ee4887f8df21d0607da7879f1500ccc1f0b99ab9dd5af"), looks := false }, kinds := [], alts := [], laidByText := true, laidKinds := [.data], laidTests := true, laidLooks := .later }
def SealPlaysCardSaid : Prop := Claim7.holds Tryz.pinned (.plain (OpenSpec.ofChange sealPlaysSpec)) sealPlaysCard

/-- THE SECOND FORM's CARD OF 'sojournlaw6.SealPlays'. -/
def sealPlaysUptoCard : Claim7 := { stood := { row := sealPlaysUptoRow, standIns := [], harness := (true, "579f8095373317c30e5ee4887f8df21d0607da7879f1500ccc1f0b99ab9dd5af"), looks := false }, kinds := [], alts := [], laidByText := true, laidKinds := [.data], laidTests := true, laidLooks := .later }
def SealPlaysUptoCardSaid : Prop := Claim7.holds Tryz.pinned (.plain (OpenSpec.upto sealPlaysSpec)) sealPlaysUptoCard
end Rows
end Go.Proofs.YtbolcapgocjgcaaGreatDoor
