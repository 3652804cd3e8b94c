/-
  DERIVED. GIVEN WITH THE SEED: THE CARDS: each row of YtlpgphiccjkenaaGreatDoorRows.lean that lists a variable, with what it lists TIED to the program's text (the seventh form; the later family's looks); each row that meets fmt, with fmt's text TOLD by the authors' own Lean function (tested against real Go, not proved from fmt's source: count such statements apart). THE CARD IS WHAT COUNTS. Prove the row's statement (the work); the ties are given (YtlpgphiccjkenaaGreatDoorTie.lean); close each card by the builder's one call (the guide's Derived/Test/ToyasCard.lean, 'card_holds'). Laid BY PROGRAM, IN A SANDBOX (cutbox-door.mjs). By AI agents, Wed Nov 11 2026. No macro, syntax, notation, axiom, sorry.
-/
import Derived.Test.YtlpgphiccjkenaaGreatDoorRows
import GoSem.ClaimSeven
namespace Go.Proofs.YtlpgphiccjkenaaGreatDoor
namespace Rows

/-- THE TIED CARD OF 'armariumlaw5.BookFull'. -/
def bookFullCard : Claim7 := { stood := { row := bookFullRow, standIns := [], harness := (true, "5c8d9de1726071b40c4aa545781435bef476cd602c79bf419498525d14786a88"), looks := true }, kinds := [], alts := [], laidByText := true, laidKinds := [.data, .data, .data, .sentinel, .sentinel], laidTests := true, laidLooks := .later }
def BookFullCardSaid : Prop := Claim7.holds Tryz.pinned (.plain (OpenSpec.ofChange bookFullSpec)) bookFullCard

/-- THE TIED CARD OF 'armariumlaw5.BookKeys'. -/
def bookKeysCard : Claim7 := { stood := { row := bookKeysRow, standIns := [], harness := (true, "5c8d9de1726071b40c4aa545781435bef476cd602c79bf419498525d14786a88"), looks := true }, kinds := [], alts := [], laidByText := true, laidKinds := [.data, .data, .data, .sentinel, .sentinel], laidTests := true, laidLooks := .later }
def BookKeysCardSaid : Prop := Claim7.holds Tryz.pinned (.plain (OpenSpec.ofChange bookKeysSpec)) bookKeysCard

/-- THE TIED CARD OF 'armariumlaw5.BookLows'. -/
def bookLowsCard : Claim7 := { stood := { row := bookLowsRow, standIns := [], harness := (true, "5c8d9de1726071b40c4aa545781435bef476cd602c79bf419498525d14786a88"), looks := true }, kinds := [], alts := [], laidByText := true, laidKinds := [.data, .data, .data, .sentinel, .sentinel], laidTests := true, laidLooks := .later }
def BookLowsCardSaid : Prop := Claim7.holds Tryz.pinned (.plain (OpenSpec.ofChange bookLowsSpec)) bookLowsCard

/-- THE SECOND FORM's CARD OF 'armariumlaw5.BookFull'. -/
def bookFullUptoCard : Claim7 := { stood := { row := bookFullUptoRow, standIns := [], harness := (true, "5c8d9de1726071b40c4aa545781435bef476cd602c79bf419498525d14786a88"), looks := true }, kinds := [], alts := [], laidByText := true, laidKinds := [.data, .data, .data, .sentinel, .sentinel], laidTests := true, laidLooks := .later }
def BookFullUptoCardSaid : Prop := Claim7.holds Tryz.pinned (.plain (OpenSpec.upto bookFullSpec)) bookFullUptoCard

/-- THE SECOND FORM's CARD OF 'armariumlaw5.BookKeys'. -/
def bookKeysUptoCard : Claim7 := { stood := { row := bookKeysUptoRow, standIns := [], harness := (true, "5c8d9de1726071b40c4aa545781435bef476cd602c79bf419498525d14786a88"), looks := true }, kinds := [], alts := [], laidByText := true, laidKinds := [.data, .data, .data, .sentinel, .sentinel], laidTests := true, laidLooks := .later }
def BookKeysUptoCardSaid : Prop := Claim7.holds Tryz.pinned (.plain (OpenSpec.upto bookKeysSpec)) bookKeysUptoCard

/-- THE SECOND FORM's CARD OF 'armariumlaw5.BookLows'. -/
def bookLowsUptoCard : Claim7 := { stood := { row := bookLowsUptoRow, standIns := [], harness := (true, "5c8d9de1726071b40c4aa545781435bef476cd602c79bf419498525d14786a88"), looks := true }, kinds := [], alts := [], laidByText := true, laidKinds := [.data, .data, .data, .sentinel, .sentinel], laidTests := true, laidLooks := .later }
def BookLowsUptoCardSaid : Prop := Claim7.holds Tryz.pinned (.plain (OpenSpec.upto bookLowsSpec)) bookLowsUptoCard
end Rows
end Go.Proofs.YtlpgphiccjkenaaGreatDoor
