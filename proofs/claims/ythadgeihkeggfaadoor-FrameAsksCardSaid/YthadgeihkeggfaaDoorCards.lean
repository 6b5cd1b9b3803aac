/-
  DERIVED. GIVEN WITH THE SEED: THE CARDS: each row of YthadgeihkeggfaaDoorRows.lean that lists a variable, with what it lists TIED to the program's text (the seventh form; the later family's looks); each row that meets fmt, with fmt's text TOLD by the authors' own Lean function (tested against real Go, not proved from fmt's source: count such statements apart). THE CARD IS WHAT COUNTS. Prove the row's statement (the work); the ties are given (YthadgeihkeggfaaDoorTie.lean); close each card by the builder's one call (the guide's Derived/Test/ToyasCard.lean, 'card_holds'). Laid BY PROGRAM, IN A SANDBOX (cutbox-door.mjs). By AI agents, Wed Nov 11 2026. No macro, syntax, notation, axiom, sorry.
-/
import Derived.Test.YthadgeihkeggfaaDoorRows
import GoSem.ClaimSeven
namespace Go.Proofs.YthadgeihkeggfaaDoor
namespace Rows

/-- THE TIED CARD OF 'sojournlaw4.FrameAsks'. -/
def frameAsksCard : Claim7 := { stood := { row := frameAsksRow, standIns := [], harness := (true, "788024560541aca4ed96af4853857f7985f7109a6227ee9ab3110105a9a11837"), looks := false }, kinds := [], alts := [], laidByText := true, laidKinds := [.data], laidTests := true, laidLooks := .later }
def FrameAsksCardSaid : Prop := Claim7.holds Tryd.pinned (.plain (OpenSpec.ofChange frameAsksSpec)) frameAsksCard

/-- THE TIED CARD OF 'sojournlaw4.FrameTorn'. -/
def frameTornCard : Claim7 := { stood := { row := frameTornRow, standIns := [], harness := (true, "788024560541aca4ed96af4853857f7985f7109a6227ee9ab3110105a9a11837"), looks := false }, kinds := [], alts := [], laidByText := true, laidKinds := [.data], laidTests := true, laidLooks := .later }
def FrameTornCardSaid : Prop := Claim7.holds Tryd.pinned (.plain (OpenSpec.ofChange frameTornSpec)) frameTornCard

/-- THE TIED CARD OF 'sojournlaw4.FrameTurned'. -/
def frameTurnedCard : Claim7 := { stood := { row := frameTurnedRow, standIns := [], harness := (true, "788024560541aca4ed96af4853857f7985f7109a6227ee9ab3110105a9a11837"), looks := false }, kinds := [], alts := [], laidByText := true, laidKinds := [.data], laidTests := true, laidLooks := .later }
def FrameTurnedCardSaid : Prop := Claim7.holds Tryd.pinned (.plain (OpenSpec.ofChange frameTurnedSpec)) frameTurnedCard

/-- THE TIED CARD OF 'sojournlaw4.FrameBounds'. -/
def frameBoundsCard : Claim7 := { stood := { row := frameBoundsRow, standIns := [], harness := (true, "788024560541aca4ed96af4853857f7985f7109a6227ee9ab3110105a9a11837"), looks := false }, kinds := [], alts := [], laidByText := true, laidKinds := [.data], laidTests := true, laidLooks := .later }
def FrameBoundsCardSaid : Prop := Claim7.holds Tryd.pinned (.plain (OpenSpec.ofChange frameBoundsSpec)) frameBoundsCard

/-- THE TIED CARD OF 'sojournlaw4.FramePlaces'. -/
def framePlacesCard : Claim7 := { stood := { row := framePlacesRow, standIns := [], harness := (true, "788024560541aca4ed96af4853857f7985f7109a6227ee9ab3110105a9a11837"), looks := false }, kinds := [], alts := [], laidByText := true, laidKinds := [.data], laidTests := true, laidLooks := .later }
def FramePlacesCardSaid : Prop := Claim7.holds Tryd.pinned (.plain (OpenSpec.ofChange framePlacesSpec)) framePlacesCard

/-- THE SECOND FORM's CARD OF 'sojournlaw4.FrameAsks'. -/
def frameAsksUptoCard : Claim7 := { stood := { row := frameAsksUptoRow, standIns := [], harness := (true, "788024560541aca4ed96af4853857f7985f7109a6227ee9ab3110105a9a11837"), looks := false }, kinds := [], alts := [], laidByText := true, laidKinds := [.data], laidTests := true, laidLooks := .later }
def FrameAsksUptoCardSaid : Prop := Claim7.holds Tryd.pinned (.plain (OpenSpec.upto frameAsksSpec)) frameAsksUptoCard

/-- THE SECOND FORM's CARD OF 'sojournlaw4.FrameTorn'. -/
def frameTornUptoCard : Claim7 := { stood := { row := frameTornUptoRow, standIns := [], harness := (true, "788024560541aca4ed96af4853857f7985f7109a6227ee9ab3110105a9a11837"), looks := false }, kinds := [], alts := [], laidByText := true, laidKinds := [.data], laidTests := true, laidLooks := .later }
def FrameTornUptoCardSaid : Prop := Claim7.holds Tryd.pinned (.plain (OpenSpec.upto frameTornSpec)) frameTornUptoCard

/-- THE SECOND FORM's CARD OF 'sojournlaw4.FrameTurned'. -/
def frameTurnedUptoCard : Claim7 := { stood := { row := frameTurnedUptoRow, standIns := [], harness := (true, "788024560541aca4ed96af4853857f7985f7109a6227ee9ab3110105a9a11837"), looks := false }, kinds := [], alts := [], laidByText := true, laidKinds := [.data], laidTests := true, laidLooks := .later }
def FrameTurnedUptoCardSaid : Prop := Claim7.holds Tryd.pinned (.plain (OpenSpec.upto frameTurnedSpec)) frameTurnedUptoCard

/-- THE SECOND FORM's CARD OF 'sojournlaw4.FrameBounds'. -/
def frameBoundsUptoCard : Claim7 := { stood := { row := frameBoundsUptoRow, standIns := [], harness := (true, "788024560541aca4ed96af4853857f7985f7109a6227ee9ab3110105a9a11837"), looks := false }, kinds := [], alts := [], laidByText := true, laidKinds := [.data], laidTests := true, laidLooks := .later }
def FrameBoundsUptoCardSaid : Prop := Claim7.holds Tryd.pinned (.plain (OpenSpec.upto frameBoundsSpec)) frameBoundsUptoCard

/-- THE SECOND FORM's CARD OF 'sojournlaw4.FramePlaces'. -/
def framePlacesUptoCard : Claim7 := { stood := { row := framePlacesUptoRow, standIns := [], harness := (true, "788024560541aca4ed96af4853857f7985f7109a6227ee9ab3110105a9a11837"), looks := false }, kinds := [], alts := [], laidByText := true, laidKinds := [.data], laidTests := true, laidLooks := .later }
def FramePlacesUptoCardSaid : Prop := Claim7.holds Tryd.pinned (.plain (OpenSpec.upto framePlacesSpec)) framePlacesUptoCard
end Rows
end Go.Proofs.YthadgeihkeggfaaDoor
