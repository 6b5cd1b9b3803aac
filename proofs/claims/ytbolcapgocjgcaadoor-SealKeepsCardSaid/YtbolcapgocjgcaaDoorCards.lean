/-
  DERIVED. GIVEN WITH THE SEED: THE CARDS: each row of YtbolcapgocjgcaaDoorRows.lean that lists a variable, with what it lists TIED to the program's text (the seventh form; the later family's looks); each row that meets fmt, with fmt's text TOLD by the authors' own Lean function (tested against real Go, not proved from fmt's source: count such statements apart). THE CARD IS WHAT COUNTS. Prove the row's statement (the work); the ties are given (YtbolcapgocjgcaaDoorTie.lean); close each card by the builder's one call (the guide's Derived/Test/ToyasCard.lean, 'card_holds'). Laid BY PROGRAM, IN A SANDBOX (cutbox-door.mjs). By AI agents, Wed Nov 11 2026. No macro, syntax, notation, axiom, sorry.
-/
import Derived.Test.YtbolcapgocjgcaaDoorRows
import GoSem.ClaimSeven
namespace Go.Proofs.YtbolcapgocjgcaaDoor
namespace Rows

/-- THE TIED CARD OF 'sojournlaw6.SealKeeps'. -/
def sealKeepsCard : Claim7 := { stood := { row := sealKeepsRow, standIns := [], harness := (true, "aa2dd9f625895691a089acdfd50a4b0273aba1151c222909f6bcf99e6471c5f3"), looks := false }, kinds := [], alts := [], laidByText := true, laidKinds := [.data], laidTests := true, laidLooks := .later }
def SealKeepsCardSaid : Prop := Claim7.holds Tryd.pinned (.plain (OpenSpec.ofChange sealKeepsSpec)) sealKeepsCard

/-- THE TIED CARD OF 'sojournlaw6.SealElder'. -/
def sealElderCard : Claim7 := { stood := { row := sealElderRow, standIns := [], harness := (true, "aa2dd9f625895691a089acdfd50a4b0273aba1151c222909f6bcf99e6471c5f3"), looks := false }, kinds := [], alts := [], laidByText := true, laidKinds := [.data], laidTests := true, laidLooks := .later }
def SealElderCardSaid : Prop := Claim7.holds Tryd.pinned (.plain (OpenSpec.ofChange sealElderSpec)) sealElderCard

/-- THE TIED CARD OF 'sojournlaw6.SealFull'. -/
def sealFullCard : Claim7 := { stood := { row := sealFullRow, standIns := [], harness := (true, "aa2dd9f625895691a089acdfd50a4b0273aba1151c222909f6bcf99e6471c5f3"), looks := false }, kinds := [], alts := [], laidByText := true, laidKinds := [.data], laidTests := true, laidLooks := .later }
def SealFullCardSaid : Prop := Claim7.holds Tryd.pinned (.plain (OpenSpec.ofChange sealFullSpec)) sealFullCard

/-- THE TIED CARD OF 'sojournlaw6.SealMany'. -/
def sealManyCard : Claim7 := { stood := { row := sealManyRow, standIns := [], harness := (true, "aa2dd9f625895691a089acdfd50a4b0273aba1151c222909f6bcf99e6471c5f3"), looks := false }, kinds := [], alts := [], laidByText := true, laidKinds := [.data], laidTests := true, laidLooks := .later }
def SealManyCardSaid : Prop := Claim7.holds Tryd.pinned (.plain (OpenSpec.ofChange sealManySpec)) sealManyCard

/-- THE SECOND FORM's CARD OF 'sojournlaw6.SealKeeps'. -/
def sealKeepsUptoCard : Claim7 := { stood := { row := sealKeepsUptoRow, standIns := [], harness := (true, "aa2dd9f625895691a089acdfd50a4b0273aba1151c222909f6bcf99e6471c5f3"), looks := false }, kinds := [], alts := [], laidByText := true, laidKinds := [.data], laidTests := true, laidLooks := .later }
def SealKeepsUptoCardSaid : Prop := Claim7.holds Tryd.pinned (.plain (OpenSpec.upto sealKeepsSpec)) sealKeepsUptoCard

/-- THE SECOND FORM's CARD OF 'sojournlaw6.SealElder'. -/
def sealElderUptoCard : Claim7 := { stood := { row := sealElderUptoRow, standIns := [], harness := (true, "aa2dd9f625895691a089acdfd50a4b0273aba1151c222909f6bcf99e6471c5f3"), looks := false }, kinds := [], alts := [], laidByText := true, laidKinds := [.data], laidTests := true, laidLooks := .later }
def SealElderUptoCardSaid : Prop := Claim7.holds Tryd.pinned (.plain (OpenSpec.upto sealElderSpec)) sealElderUptoCard

/-- THE SECOND FORM's CARD OF 'sojournlaw6.SealFull'. -/
def sealFullUptoCard : Claim7 := { stood := { row := sealFullUptoRow, standIns := [], harness := (true, "aa2dd9f625895691a089acdfd50a4b0273aba1151c222909f6bcf99e6471c5f3"), looks := false }, kinds := [], alts := [], laidByText := true, laidKinds := [.data], laidTests := true, laidLooks := .later }
def SealFullUptoCardSaid : Prop := Claim7.holds Tryd.pinned (.plain (OpenSpec.upto sealFullSpec)) sealFullUptoCard

/-- THE SECOND FORM's CARD OF 'sojournlaw6.SealMany'. -/
def sealManyUptoCard : Claim7 := { stood := { row := sealManyUptoRow, standIns := [], harness := (true, "aa2dd9f625895691a089acdfd50a4b0273aba1151c222909f6bcf99e6471c5f3"), looks := false }, kinds := [], alts := [], laidByText := true, laidKinds := [.data], laidTests := true, laidLooks := .later }
def SealManyUptoCardSaid : Prop := Claim7.holds Tryd.pinned (.plain (OpenSpec.upto sealManySpec)) sealManyUptoCard
end Rows
end Go.Proofs.YtbolcapgocjgcaaDoor
