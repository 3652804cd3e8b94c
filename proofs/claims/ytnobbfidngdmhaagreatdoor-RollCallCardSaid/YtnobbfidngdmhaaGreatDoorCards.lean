/-
  DERIVED. GIVEN WITH THE SEED: THE CARDS: each row of YtnobbfidngdmhaaGreatDoorRows.lean that lists a variable, with what it lists TIED to the program's text (the seventh form; the later family's looks); each row that meets fmt, with fmt's text TOLD by the authors' own Lean function (tested against real Go, not proved from fmt's source: count such statements apart). THE CARD IS WHAT COUNTS. Prove the row's statement (the work); the ties are given (YtnobbfidngdmhaaGreatDoorTie.lean); close each card by the builder's one call (the guide's Derived/Test/ToyasCard.lean, 'card_holds'). Laid BY PROGRAM, IN A SANDBOX (cutbox-door.mjs). By AI agents, Wed Nov 11 2026. No macro, syntax, notation, axiom, sorry.
-/
import Derived.Test.YtnobbfidngdmhaaGreatDoorRows
import GoSem.ClaimSeven
namespace Go.Proofs.YtnobbfidngdmhaaGreatDoor
namespace Rows

/-- THE TIED CARD OF 'armariumlaw3.RollAll'. -/
def rollAllCard : Claim7 := { stood := { row := rollAllRow, standIns := [], harness := (true, "6c839aa480e5b2676c29d12d463808c7fcbf3eb75ce5d36f08f33024697712d3"), looks := true }, kinds := [], alts := [], laidByText := true, laidKinds := [.data, .data, .data, .sentinel, .sentinel], laidTests := true, laidLooks := .later }
def RollAllCardSaid : Prop := Claim7.holds Tryz.pinned (.plain (OpenSpec.ofChange rollAllSpec)) rollAllCard

/-- THE TIED CARD OF 'armariumlaw3.RollTear'. -/
def rollTearCard : Claim7 := { stood := { row := rollTearRow, standIns := [], harness := (true, "6c839aa480e5b2676c29d12d463808c7fcbf3eb75ce5d36f08f33024697712d3"), looks := true }, kinds := [], alts := [], laidByText := true, laidKinds := [.data, .data, .data, .sentinel, .sentinel], laidTests := true, laidLooks := .later }
def RollTearCardSaid : Prop := Claim7.holds Tryz.pinned (.plain (OpenSpec.ofChange rollTearSpec)) rollTearCard

/-- THE TIED CARD OF 'armariumlaw3.RollCall'. -/
def rollCallCard : Claim7 := { stood := { row := rollCallRow, standIns := [], harness := (true, "6c839aa480e5b2676c29d12d463808c7fcbf3eb75ce5d36f08f33024697712d3"), looks := true }, kinds := [], alts := [], laidByText := true, laidKinds := [.data, .data, .data, .sentinel, .sentinel], laidTests := true, laidLooks := .later }
def RollCallCardSaid : Prop := Claim7.holds Tryz.pinned (.plain (OpenSpec.ofChange rollCallSpec)) rollCallCard

/-- THE TIED CARD OF 'armariumlaw3.RollNone'. -/
def rollNoneCard : Claim7 := { stood := { row := rollNoneRow, standIns := [], harness := (true, "6c839aa480e5b2676c29d12d463808c7fcbf3eb75ce5d36f08f33024697712d3"), looks := true }, kinds := [], alts := [], laidByText := true, laidKinds := [.data, .data, .data, .sentinel, .sentinel], laidTests := true, laidLooks := .later }
def RollNoneCardSaid : Prop := Claim7.holds Tryz.pinned (.plain (OpenSpec.ofChange rollNoneSpec)) rollNoneCard

/-- THE TIED CARD OF 'armariumlaw3.RollNames'. -/
def rollNamesCard : Claim7 := { stood := { row := rollNamesRow, standIns := [], harness := (true, "6c839aa480e5b2676c29d12d463808c7fcbf3eb75ce5d36f08f33024697712d3"), looks := true }, kinds := [], alts := [], laidByText := true, laidKinds := [.data, .data, .data, .sentinel, .sentinel], laidTests := true, laidLooks := .later }
def RollNamesCardSaid : Prop := Claim7.holds Tryz.pinned (.plain (OpenSpec.ofChange rollNamesSpec)) rollNamesCard

/-- THE SECOND FORM's CARD OF 'armariumlaw3.RollAll'. -/
def rollAllUptoCard : Claim7 := { stood := { row := rollAllUptoRow, standIns := [], harness := (true, "6c839aa480e5b2676c29d12d463808c7fcbf3eb75ce5d36f08f33024697712d3"), looks := true }, kinds := [], alts := [], laidByText := true, laidKinds := [.data, .data, .data, .sentinel, .sentinel], laidTests := true, laidLooks := .later }
def RollAllUptoCardSaid : Prop := Claim7.holds Tryz.pinned (.plain (OpenSpec.upto rollAllSpec)) rollAllUptoCard

/-- THE SECOND FORM's CARD OF 'armariumlaw3.RollTear'. -/
def rollTearUptoCard : Claim7 := { stood := { row := rollTearUptoRow, standIns := [], harness := (true, "6c839aa480e5b2676c29d12d463808c7fcbf3eb75ce5d36f08f33024697712d3"), looks := true }, kinds := [], alts := [], laidByText := true, laidKinds := [.data, .data, .data, .sentinel, .sentinel], laidTests := true, laidLooks := .later }
def RollTearUptoCardSaid : Prop := Claim7.holds Tryz.pinned (.plain (OpenSpec.upto rollTearSpec)) rollTearUptoCard

/-- THE SECOND FORM's CARD OF 'armariumlaw3.RollCall'. -/
def rollCallUptoCard : Claim7 := { stood := { row := rollCallUptoRow, standIns := [], harness := (true, "6c839aa480e5b2676c29d12d463808c7fcbf3eb75ce5d36f08f33024697712d3"), looks := true }, kinds := [], alts := [], laidByText := true, laidKinds := [.data, .data, .data, .sentinel, .sentinel], laidTests := true, laidLooks := .later }
def RollCallUptoCardSaid : Prop := Claim7.holds Tryz.pinned (.plain (OpenSpec.upto rollCallSpec)) rollCallUptoCard

/-- THE SECOND FORM's CARD OF 'armariumlaw3.RollNone'. -/
def rollNoneUptoCard : Claim7 := { stood := { row := rollNoneUptoRow, standIns := [], harness := (true, "6c839aa480e5b2676c29d12d463808c7fcbf3eb75ce5d36f08f33024697712d3"), looks := true }, kinds := [], alts := [], laidByText := true, laidKinds := [.data, .data, .data, .sentinel, .sentinel], laidTests := true, laidLooks := .later }
def RollNoneUptoCardSaid : Prop := Claim7.holds Tryz.pinned (.plain (OpenSpec.upto rollNoneSpec)) rollNoneUptoCard

/-- THE SECOND FORM's CARD OF 'armariumlaw3.RollNames'. -/
def rollNamesUptoCard : Claim7 := { stood := { row := rollNamesUptoRow, standIns := [], harness := (true, "6c839aa480e5b2676c29d12d463808c7fcbf3eb75ce5d36f08f33024697712d3"), looks := true }, kinds := [], alts := [], laidByText := true, laidKinds := [.data, .data, .data, .sentinel, .sentinel], laidTests := true, laidLooks := .later }
def RollNamesUptoCardSaid : Prop := Claim7.holds Tryz.pinned (.plain (OpenSpec.upto rollNamesSpec)) rollNamesUptoCard
end Rows
end Go.Proofs.YtnobbfidngdmhaaGreatDoor
