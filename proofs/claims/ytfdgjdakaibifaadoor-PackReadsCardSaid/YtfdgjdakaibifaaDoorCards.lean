/-
  DERIVED. GIVEN WITH THE SEED: THE CARDS: each row of YtfdgjdakaibifaaDoorRows.lean that lists a variable, with what it lists TIED to the program's text (the seventh form; the later family's looks); each row that meets fmt, with fmt's text TOLD by the authors' own Lean function (tested against real Go, not proved from fmt's source: count such statements apart). THE CARD IS WHAT COUNTS. Prove the row's statement (the work); the ties are given (YtfdgjdakaibifaaDoorTie.lean); close each card by the builder's one call (the guide's Derived/Test/ToyasCard.lean, 'card_holds'). Laid BY PROGRAM, IN A SANDBOX (cutbox-door.mjs). By AI agents, Wed Nov 11 2026. No macro, syntax, notation, axiom, sorry.
-/
import Derived.Test.YtfdgjdakaibifaaDoorRows
import GoSem.ClaimSeven
namespace Go.Proofs.YtfdgjdakaibifaaDoor
namespace Rows

/-- THE TIED CARD OF 'sojournlaw1.PackWrites'. -/
def packWritesCard : Claim7 := { stood := { row := packWritesRow, standIns := [], harness := (true, "b34aa502cef7d8fa9dd9ecbff643a7e18e23c741a15a4db456e1136df60aacc7"), looks := false }, kinds := [], alts := [], laidByText := true, laidKinds := [.data], laidTests := true, laidLooks := .later }
def PackWritesCardSaid : Prop := Claim7.holds Tryd.pinned (.plain (OpenSpec.ofChange packWritesSpec)) packWritesCard

/-- THE TIED CARD OF 'sojournlaw1.PackReads'. -/
def packReadsCard : Claim7 := { stood := { row := packReadsRow, standIns := [], harness := (true, "b34aa502cef7d8fa9dd9ecbff643a7e18e23c741a15a4db456e1136df60aacc7"), looks := false }, kinds := [], alts := [], laidByText := true, laidKinds := [.data], laidTests := true, laidLooks := .later }
def PackReadsCardSaid : Prop := Claim7.holds Tryd.pinned (.plain (OpenSpec.ofChange packReadsSpec)) packReadsCard

/-- THE TIED CARD OF 'sojournlaw1.PackBack'. -/
def packBackCard : Claim7 := { stood := { row := packBackRow, standIns := [], harness := (true, "b34aa502cef7d8fa9dd9ecbff643a7e18e23c741a15a4db456e1136df60aacc7"), looks := false }, kinds := [], alts := [], laidByText := true, laidKinds := [.data], laidTests := true, laidLooks := .later }
def PackBackCardSaid : Prop := Claim7.holds Tryd.pinned (.plain (OpenSpec.ofChange packBackSpec)) packBackCard

/-- THE TIED CARD OF 'sojournlaw1.PackForms'. -/
def packFormsCard : Claim7 := { stood := { row := packFormsRow, standIns := [], harness := (true, "b34aa502cef7d8fa9dd9ecbff643a7e18e23c741a15a4db456e1136df60aacc7"), looks := false }, kinds := [], alts := [], laidByText := true, laidKinds := [.data], laidTests := true, laidLooks := .later }
def PackFormsCardSaid : Prop := Claim7.holds Tryd.pinned (.plain (OpenSpec.ofChange packFormsSpec)) packFormsCard

/-- THE TIED CARD OF 'sojournlaw1.PackSums'. -/
def packSumsCard : Claim7 := { stood := { row := packSumsRow, standIns := [], harness := (true, "b34aa502cef7d8fa9dd9ecbff643a7e18e23c741a15a4db456e1136df60aacc7"), looks := false }, kinds := [], alts := [], laidByText := true, laidKinds := [.data], laidTests := true, laidLooks := .later }
def PackSumsCardSaid : Prop := Claim7.holds Tryd.pinned (.plain (OpenSpec.ofChange packSumsSpec)) packSumsCard

/-- THE TIED CARD OF 'sojournlaw1.PackNobody'. -/
def packNobodyCard : Claim7 := { stood := { row := packNobodyRow, standIns := [], harness := (true, "b34aa502cef7d8fa9dd9ecbff643a7e18e23c741a15a4db456e1136df60aacc7"), looks := false }, kinds := [], alts := [], laidByText := true, laidKinds := [.data], laidTests := true, laidLooks := .later }
def PackNobodyCardSaid : Prop := Claim7.holds Tryd.pinned (.plain (OpenSpec.ofChange packNobodySpec)) packNobodyCard

/-- THE TIED CARD OF 'sojournlaw1.PackSmall'. -/
def packSmallCard : Claim7 := { stood := { row := packSmallRow, standIns := [], harness := (true, "b34aa502cef7d8fa9dd9ecbff643a7e18e23c741a15a4db456e1136df60aacc7"), looks := false }, kinds := [], alts := [], laidByText := true, laidKinds := [.data], laidTests := true, laidLooks := .later }
def PackSmallCardSaid : Prop := Claim7.holds Tryd.pinned (.plain (OpenSpec.ofChange packSmallSpec)) packSmallCard

/-- THE TIED CARD OF 'sojournlaw1.PackWrong'. -/
def packWrongCard : Claim7 := { stood := { row := packWrongRow, standIns := [], harness := (true, "b34aa502cef7d8fa9dd9ecbff643a7e18e23c741a15a4db456e1136df60aacc7"), looks := false }, kinds := [], alts := [], laidByText := true, laidKinds := [.data], laidTests := true, laidLooks := .later }
def PackWrongCardSaid : Prop := Claim7.holds Tryd.pinned (.plain (OpenSpec.ofChange packWrongSpec)) packWrongCard

/-- THE SECOND FORM's CARD OF 'sojournlaw1.PackWrites'. -/
def packWritesUptoCard : Claim7 := { stood := { row := packWritesUptoRow, standIns := [], harness := (true, "b34aa502cef7d8fa9dd9ecbff643a7e18e23c741a15a4db456e1136df60aacc7"), looks := false }, kinds := [], alts := [], laidByText := true, laidKinds := [.data], laidTests := true, laidLooks := .later }
def PackWritesUptoCardSaid : Prop := Claim7.holds Tryd.pinned (.plain (OpenSpec.upto packWritesSpec)) packWritesUptoCard

/-- THE SECOND FORM's CARD OF 'sojournlaw1.PackReads'. -/
def packReadsUptoCard : Claim7 := { stood := { row := packReadsUptoRow, standIns := [], harness := (true, "b34aa502cef7d8fa9dd9ecbff643a7e18e23c741a15a4db456e1136df60aacc7"), looks := false }, kinds := [], alts := [], laidByText := true, laidKinds := [.data], laidTests := true, laidLooks := .later }
def PackReadsUptoCardSaid : Prop := Claim7.holds Tryd.pinned (.plain (OpenSpec.upto packReadsSpec)) packReadsUptoCard

/-- THE SECOND FORM's CARD OF 'sojournlaw1.PackBack'. -/
def packBackUptoCard : Claim7 := { stood := { row := packBackUptoRow, standIns := [], harness := (true, "b34aa502cef7d8fa9dd9ecbff643a7e18e23c741a15a4db456e1136df60aacc7"), looks := false }, kinds := [], alts := [], laidByText := true, laidKinds := [.data], laidTests := true, laidLooks := .later }
def PackBackUptoCardSaid : Prop := Claim7.holds Tryd.pinned (.plain (OpenSpec.upto packBackSpec)) packBackUptoCard

/-- THE SECOND FORM's CARD OF 'sojournlaw1.PackForms'. -/
def packFormsUptoCard : Claim7 := { stood := { row := packFormsUptoRow, standIns := [], harness := (true, "b34aa502cef7d8fa9dd9ecbff643a7e18e23c741a15a4db456e1136df60aacc7"), looks := false }, kinds := [], alts := [], laidByText := true, laidKinds := [.data], laidTests := true, laidLooks := .later }
def PackFormsUptoCardSaid : Prop := Claim7.holds Tryd.pinned (.plain (OpenSpec.upto packFormsSpec)) packFormsUptoCard

/-- THE SECOND FORM's CARD OF 'sojournlaw1.PackSums'. -/
def packSumsUptoCard : Claim7 := { stood := { row := packSumsUptoRow, standIns := [], harness := (true, "b34aa502cef7d8fa9dd9ecbff643a7e18e23c741a15a4db456e1136df60aacc7"), looks := false }, kinds := [], alts := [], laidByText := true, laidKinds := [.data], laidTests := true, laidLooks := .later }
def PackSumsUptoCardSaid : Prop := Claim7.holds Tryd.pinned (.plain (OpenSpec.upto packSumsSpec)) packSumsUptoCard

/-- THE SECOND FORM's CARD OF 'sojournlaw1.PackNobody'. -/
def packNobodyUptoCard : Claim7 := { stood := { row := packNobodyUptoRow, standIns := [], harness := (true, "b34aa502cef7d8fa9dd9ecbff643a7e18e23c741a15a4db456e1136df60aacc7"), looks := false }, kinds := [], alts := [], laidByText := true, laidKinds := [.data], laidTests := true, laidLooks := .later }
def PackNobodyUptoCardSaid : Prop := Claim7.holds Tryd.pinned (.plain (OpenSpec.upto packNobodySpec)) packNobodyUptoCard

/-- THE SECOND FORM's CARD OF 'sojournlaw1.PackSmall'. -/
def packSmallUptoCard : Claim7 := { stood := { row := packSmallUptoRow, standIns := [], harness := (true, "b34aa502cef7d8fa9dd9ecbff643a7e18e23c741a15a4db456e1136df60aacc7"), looks := false }, kinds := [], alts := [], laidByText := true, laidKinds := [.data], laidTests := true, laidLooks := .later }
def PackSmallUptoCardSaid : Prop := Claim7.holds Tryd.pinned (.plain (OpenSpec.upto packSmallSpec)) packSmallUptoCard

/-- THE SECOND FORM's CARD OF 'sojournlaw1.PackWrong'. -/
def packWrongUptoCard : Claim7 := { stood := { row := packWrongUptoRow, standIns := [], harness := (true, "b34aa502cef7d8fa9dd9ecbff643a7e18e23c741a15a4db456e1136df60aacc7"), looks := false }, kinds := [], alts := [], laidByText := true, laidKinds := [.data], laidTests := true, laidLooks := .later }
def PackWrongUptoCardSaid : Prop := Claim7.holds Tryd.pinned (.plain (OpenSpec.upto packWrongSpec)) packWrongUptoCard
end Rows
end Go.Proofs.YtfdgjdakaibifaaDoor
