/-
  DERIVED. GIVEN WITH THE SEED: THE CARDS: each row of YtakicogelkdofaaDoorRows.lean that lists a variable, with what it lists TIED to the program's text (the seventh form; the later family's looks); each row that meets fmt, with fmt's text TOLD by the authors' own Lean function (tested against real Go, not proved from fmt's source: count such statements apart). THE CARD IS WHAT COUNTS. Prove the row's statement (the work); the ties are given (YtakicogelkdofaaDoorTie.lean); close each card by the builder's one call (the guide's Derived/Test/ToyasCard.lean, 'card_holds'). Laid BY PROGRAM, IN A SANDBOX (cutbox-door.mjs). By AI agents, Wed Nov 11 2026. No macro, syntax, notation, axiom, sorry.
-/
import Derived.Test.YtakicogelkdofaaDoorRows
import GoSem.ClaimSeven
namespace Go.Proofs.YtakicogelkdofaaDoor
namespace Rows

/-- THE TIED CARD OF 'sojournlaw15.SagaAsks'. -/
def sagaAsksCard : Claim7 := { stood := { row := sagaAsksRow, standIns := [], harness := (true, "cb09e9f02761fde5c0480b8fa2ed32aaad28072034444aade793f9d260314513"), looks := false }, kinds := [], alts := [], laidByText := true, laidKinds := [.data], laidTests := true, laidLooks := .later }
def SagaAsksCardSaid : Prop := Claim7.holds Tryd.pinned (.plain (OpenSpec.ofChange sagaAsksSpec)) sagaAsksCard

/-- THE TIED CARD OF 'sojournlaw15.SagaBytes'. -/
def sagaBytesCard : Claim7 := { stood := { row := sagaBytesRow, standIns := [], harness := (true, "cb09e9f02761fde5c0480b8fa2ed32aaad28072034444aade793f9d260314513"), looks := false }, kinds := [], alts := [], laidByText := true, laidKinds := [.data], laidTests := true, laidLooks := .later }
def SagaBytesCardSaid : Prop := Claim7.holds Tryd.pinned (.plain (OpenSpec.ofChange sagaBytesSpec)) sagaBytesCard

/-- THE TIED CARD OF 'sojournlaw15.SagaEnds'. -/
def sagaEndsCard : Claim7 := { stood := { row := sagaEndsRow, standIns := [], harness := (true, "cb09e9f02761fde5c0480b8fa2ed32aaad28072034444aade793f9d260314513"), looks := false }, kinds := [], alts := [], laidByText := true, laidKinds := [.data], laidTests := true, laidLooks := .later }
def SagaEndsCardSaid : Prop := Claim7.holds Tryd.pinned (.plain (OpenSpec.ofChange sagaEndsSpec)) sagaEndsCard

/-- THE TIED CARD OF 'sojournlaw15.SagaReasons'. -/
def sagaReasonsCard : Claim7 := { stood := { row := sagaReasonsRow, standIns := [], harness := (true, "cb09e9f02761fde5c0480b8fa2ed32aaad28072034444aade793f9d260314513"), looks := false }, kinds := [], alts := [], laidByText := true, laidKinds := [.data], laidTests := true, laidLooks := .later }
def SagaReasonsCardSaid : Prop := Claim7.holds Tryd.pinned (.plain (OpenSpec.ofChange sagaReasonsSpec)) sagaReasonsCard

/-- THE TIED CARD OF 'sojournlaw15.SagaWhole'. -/
def sagaWholeCard : Claim7 := { stood := { row := sagaWholeRow, standIns := [], harness := (true, "cb09e9f02761fde5c0480b8fa2ed32aaad28072034444aade793f9d260314513"), looks := false }, kinds := [], alts := [], laidByText := true, laidKinds := [.data], laidTests := true, laidLooks := .later }
def SagaWholeCardSaid : Prop := Claim7.holds Tryd.pinned (.plain (OpenSpec.ofChange sagaWholeSpec)) sagaWholeCard

/-- THE TIED CARD OF 'sojournlaw15.SagaUndone'. -/
def sagaUndoneCard : Claim7 := { stood := { row := sagaUndoneRow, standIns := [], harness := (true, "cb09e9f02761fde5c0480b8fa2ed32aaad28072034444aade793f9d260314513"), looks := false }, kinds := [], alts := [], laidByText := true, laidKinds := [.data], laidTests := true, laidLooks := .later }
def SagaUndoneCardSaid : Prop := Claim7.holds Tryd.pinned (.plain (OpenSpec.ofChange sagaUndoneSpec)) sagaUndoneCard

/-- THE TIED CARD OF 'sojournlaw15.SagaTurned'. -/
def sagaTurnedCard : Claim7 := { stood := { row := sagaTurnedRow, standIns := [], harness := (true, "cb09e9f02761fde5c0480b8fa2ed32aaad28072034444aade793f9d260314513"), looks := false }, kinds := [], alts := [], laidByText := true, laidKinds := [.data], laidTests := true, laidLooks := .later }
def SagaTurnedCardSaid : Prop := Claim7.holds Tryd.pinned (.plain (OpenSpec.ofChange sagaTurnedSpec)) sagaTurnedCard

/-- THE SECOND FORM's CARD OF 'sojournlaw15.SagaAsks'. -/
def sagaAsksUptoCard : Claim7 := { stood := { row := sagaAsksUptoRow, standIns := [], harness := (true, "cb09e9f02761fde5c0480b8fa2ed32aaad28072034444aade793f9d260314513"), looks := false }, kinds := [], alts := [], laidByText := true, laidKinds := [.data], laidTests := true, laidLooks := .later }
def SagaAsksUptoCardSaid : Prop := Claim7.holds Tryd.pinned (.plain (OpenSpec.upto sagaAsksSpec)) sagaAsksUptoCard

/-- THE SECOND FORM's CARD OF 'sojournlaw15.SagaBytes'. -/
def sagaBytesUptoCard : Claim7 := { stood := { row := sagaBytesUptoRow, standIns := [], harness := (true, "cb09e9f02761fde5c0480b8fa2ed32aaad28072034444aade793f9d260314513"), looks := false }, kinds := [], alts := [], laidByText := true, laidKinds := [.data], laidTests := true, laidLooks := .later }
def SagaBytesUptoCardSaid : Prop := Claim7.holds Tryd.pinned (.plain (OpenSpec.upto sagaBytesSpec)) sagaBytesUptoCard

/-- THE SECOND FORM's CARD OF 'sojournlaw15.SagaEnds'. -/
def sagaEndsUptoCard : Claim7 := { stood := { row := sagaEndsUptoRow, standIns := [], harness := (true, "cb09e9f02761fde5c0480b8fa2ed32aaad28072034444aade793f9d260314513"), looks := false }, kinds := [], alts := [], laidByText := true, laidKinds := [.data], laidTests := true, laidLooks := .later }
def SagaEndsUptoCardSaid : Prop := Claim7.holds Tryd.pinned (.plain (OpenSpec.upto sagaEndsSpec)) sagaEndsUptoCard

/-- THE SECOND FORM's CARD OF 'sojournlaw15.SagaReasons'. -/
def sagaReasonsUptoCard : Claim7 := { stood := { row := sagaReasonsUptoRow, standIns := [], harness := (true, "cb09e9f02761fde5c0480b8fa2ed32aaad28072034444aade793f9d260314513"), looks := false }, kinds := [], alts := [], laidByText := true, laidKinds := [.data], laidTests := true, laidLooks := .later }
def SagaReasonsUptoCardSaid : Prop := Claim7.holds Tryd.pinned (.plain (OpenSpec.upto sagaReasonsSpec)) sagaReasonsUptoCard

/-- THE SECOND FORM's CARD OF 'sojournlaw15.SagaWhole'. -/
def sagaWholeUptoCard : Claim7 := { stood := { row := sagaWholeUptoRow, standIns := [], harness := (true, "cb09e9f02761fde5c0480b8fa2ed32aaad28072034444aade793f9d260314513"), looks := false }, kinds := [], alts := [], laidByText := true, laidKinds := [.data], laidTests := true, laidLooks := .later }
def SagaWholeUptoCardSaid : Prop := Claim7.holds Tryd.pinned (.plain (OpenSpec.upto sagaWholeSpec)) sagaWholeUptoCard

/-- THE SECOND FORM's CARD OF 'sojournlaw15.SagaUndone'. -/
def sagaUndoneUptoCard : Claim7 := { stood := { row := sagaUndoneUptoRow, standIns := [], harness := (true, "cb09e9f02761fde5c0480b8fa2ed32aaad28072034444aade793f9d260314513"), looks := false }, kinds := [], alts := [], laidByText := true, laidKinds := [.data], laidTests := true, laidLooks := .later }
def SagaUndoneUptoCardSaid : Prop := Claim7.holds Tryd.pinned (.plain (OpenSpec.upto sagaUndoneSpec)) sagaUndoneUptoCard

/-- THE SECOND FORM's CARD OF 'sojournlaw15.SagaTurned'. -/
def sagaTurnedUptoCard : Claim7 := { stood := { row := sagaTurnedUptoRow, standIns := [], harness := (true, "cb09e9f02761fde5c0480b8fa2ed32aaad28072034444aade793f9d260314513"), looks := false }, kinds := [], alts := [], laidByText := true, laidKinds := [.data], laidTests := true, laidLooks := .later }
def SagaTurnedUptoCardSaid : Prop := Claim7.holds Tryd.pinned (.plain (OpenSpec.upto sagaTurnedSpec)) sagaTurnedUptoCard
end Rows
end Go.Proofs.YtakicogelkdofaaDoor
