/-
  DERIVED. GIVEN WITH THE SEED: THE CARDS: each row of YtadponabbkbiaaaGreatDoorRows.lean that lists a variable, with what it lists TIED to the program's text (the seventh form; the later family's looks); each row that meets fmt, with fmt's text TOLD by the authors' own Lean function (tested against real Go, not proved from fmt's source: count such statements apart). THE CARD IS WHAT COUNTS. Prove the row's statement (the work); the ties are given (YtadponabbkbiaaaGreatDoorTie.lean); close each card by the builder's one call (the guide's Derived/Test/ToyasCard.lean, 'card_holds'). Laid BY PROGRAM, IN A SANDBOX (cutbox-door.mjs). By AI agents, Wed Nov 11 2026. No macro, syntax, notation, axiom, sorry.
-/
import Derived.Test.YtadponabbkbiaaaGreatDoorRows
import GoSem.ClaimSeven
namespace Go.Proofs.YtadponabbkbiaaaGreatDoor
namespace Rows

/-- THE TIED CARD OF 'armariumlaw5.DeedKeys'. -/
def deedKeysCard : Claim7 := { stood := { row := deedKeysRow, standIns := [], harness := (true, "160b14c597150ea7814c7ce572d2a60a5849c0417814f7712e1ed0cfee8a4da2"), looks := true }, kinds := [], alts := [], laidByText := true, laidKinds := [.data, .data, .data, .sentinel, .sentinel], laidTests := true, laidLooks := .later }
def DeedKeysCardSaid : Prop := Claim7.holds Tryz.pinned (.plain (OpenSpec.ofChange deedKeysSpec)) deedKeysCard

/-- THE SECOND FORM's CARD OF 'armariumlaw5.DeedKeys'. -/
def deedKeysUptoCard : Claim7 := { stood := { row := deedKeysUptoRow, standIns := [], harness := (true, "160b14c597150ea7814c7ce572d2a60a5849c0417814f7712e1ed0cfee8a4da2"), looks := true }, kinds := [], alts := [], laidByText := true, laidKinds := [.data, .data, .data, .sentinel, .sentinel], laidTests := true, laidLooks := .later }
def DeedKeysUptoCardSaid : Prop := Claim7.holds Tryz.pinned (.plain (OpenSpec.upto deedKeysSpec)) deedKeysUptoCard
end Rows
end Go.Proofs.YtadponabbkbiaaaGreatDoor
