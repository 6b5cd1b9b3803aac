/-
  DERIVED. GIVEN WITH THE SEED: THE CARDS: each row of YtidfpbnepdjagaaDoorRows.lean that lists a variable, with what it lists TIED to the program's text (the seventh form; the later family's looks); each row that meets fmt, with fmt's text TOLD by the authors' own Lean function (tested against real Go, not proved from fmt's source: count such statements apart). THE CARD IS WHAT COUNTS. Prove the row's statement (the work); the ties are given (YtidfpbnepdjagaaDoorTie.lean); close each card by the builder's one call (the guide's Derived/Test/ToyasCard.lean, 'card_holds'). Laid BY PROGRAM, IN A SANDBOX (cutbox-door.mjs). By AI agents, Wed Nov 11 2026. No macro, syntax, notation, axiom, sorry.
-/
import Derived.Test.YtidfpbnepdjagaaDoorRows
import GoSem.ClaimSeven
namespace Go.Proofs.YtidfpbnepdjagaaDoor
namespace Rows

/-- THE TIED CARD OF 'sojournlaw17.RecordAsks'. -/
def recordAsksCard : Claim7 := { stood := { row := recordAsksRow, standIns := [], harness := (true, "1b5a61b8b1df71730421c1f057b7fe26865b611382680ab675fe9f04fb543786"), looks := false }, kinds := [], alts := [], laidByText := true, laidKinds := [.data], laidTests := true, laidLooks := .later }
def RecordAsksCardSaid : Prop := Claim7.holds Tryd.pinned (.plain (OpenSpec.ofChange recordAsksSpec)) recordAsksCard

/-- THE TIED CARD OF 'sojournlaw17.RecordBack'. -/
def recordBackCard : Claim7 := { stood := { row := recordBackRow, standIns := [], harness := (true, "1b5a61b8b1df71730421c1f057b7fe26865b611382680ab675fe9f04fb543786"), looks := false }, kinds := [], alts := [], laidByText := true, laidKinds := [.data], laidTests := true, laidLooks := .later }
def RecordBackCardSaid : Prop := Claim7.holds Tryd.pinned (.plain (OpenSpec.ofChange recordBackSpec)) recordBackCard

/-- THE TIED CARD OF 'sojournlaw17.RecordKinds'. -/
def recordKindsCard : Claim7 := { stood := { row := recordKindsRow, standIns := [], harness := (true, "1b5a61b8b1df71730421c1f057b7fe26865b611382680ab675fe9f04fb543786"), looks := false }, kinds := [], alts := [], laidByText := true, laidKinds := [.data], laidTests := true, laidLooks := .later }
def RecordKindsCardSaid : Prop := Claim7.holds Tryd.pinned (.plain (OpenSpec.ofChange recordKindsSpec)) recordKindsCard

/-- THE SECOND FORM's CARD OF 'sojournlaw17.RecordAsks'. -/
def recordAsksUptoCard : Claim7 := { stood := { row := recordAsksUptoRow, standIns := [], harness := (true, "1b5a61b8b1df71730421c1f057b7fe26865b611382680ab675fe9f04fb543786"), looks := false }, kinds := [], alts := [], laidByText := true, laidKinds := [.data], laidTests := true, laidLooks := .later }
def RecordAsksUptoCardSaid : Prop := Claim7.holds Tryd.pinned (.plain (OpenSpec.upto recordAsksSpec)) recordAsksUptoCard

/-- THE SECOND FORM's CARD OF 'sojournlaw17.RecordBack'. -/
def recordBackUptoCard : Claim7 := { stood := { row := recordBackUptoRow, standIns := [], harness := (true, "1b5a61b8b1df71730421c1f057b7fe26865b611382680ab675fe9f04fb543786"), looks := false }, kinds := [], alts := [], laidByText := true, laidKinds := [.data], laidTests := true, laidLooks := .later }
def RecordBackUptoCardSaid : Prop := Claim7.holds Tryd.pinned (.plain (OpenSpec.upto recordBackSpec)) recordBackUptoCard

/-- THE SECOND FORM's CARD OF 'sojournlaw17.RecordKinds'. -/
def recordKindsUptoCard : Claim7 := { stood := { row := recordKindsUptoRow, standIns := [], harness := (true, "1b5a61b8b1df71730421c1f057b7fe26865b611382680ab675fe9f04fb543786"), looks := false }, kinds := [], alts := [], laidByText := true, laidKinds := [.data], laidTests := true, laidLooks := .later }
def RecordKindsUptoCardSaid : Prop := Claim7.holds Tryd.pinned (.plain (OpenSpec.upto recordKindsSpec)) recordKindsUptoCard
end Rows
end Go.Proofs.YtidfpbnepdjagaaDoor
