/-
  DERIVED. GIVEN WITH THE SEED: THE CARDS: each row of YtlajbminbdhpaaaGreatDoorRows.lean that lists a variable, with what it lists TIED to the program's text (the seventh form; the later family's looks); each row that meets fmt, with fmt's text TOLD by the authors' own Lean function (tested against real Go, not proved from fmt's source: count such statements apart). THE CARD IS WHAT COUNTS. Prove the row's statement (the work); the ties are given (YtlajbminbdhpaaaGreatDoorTie.lean); close each card by the builder's one call (the guide's Derived/Test/ToyasCard.lean, 'card_holds'). Laid BY PROGRAM, IN A SANDBOX (cutbox-door.mjs). By AI agents, Wed Nov 11 2026. No macro, syntax, notation, axiom, sorry.
-/
import Derived.Test.YtlajbminbdhpaaaGreatDoorRows
import GoSem.ClaimSeven
namespace Go.Proofs.YtlajbminbdhpaaaGreatDoor
namespace Rows

/-- THE TIED CARD OF 'armariumlaw5.TomeAll'. -/
def tomeAllCard : Claim7 := { stood := { row := tomeAllRow, standIns := [], harness := (true, "65b0f009630296bb3dcfbce7c40971606dcd3bbea94d37c4c6561b116fa107d1"), looks := true }, kinds := [], alts := [], laidByText := true, laidKinds := [.data, .data, .data, .sentinel, .sentinel], laidTests := true, laidLooks := .later }
def TomeAllCardSaid : Prop := Claim7.holds Tryz.pinned (.plain (OpenSpec.ofChange tomeAllSpec)) tomeAllCard

/-- THE SECOND FORM's CARD OF 'armariumlaw5.TomeAll'. -/
def tomeAllUptoCard : Claim7 := { stood := { row := tomeAllUptoRow, standIns := [], harness := (true, "65b0f009630296bb3dcfbce7c40971606dcd3bbea94d37c4c6561b116fa107d1"), looks := true }, kinds := [], alts := [], laidByText := true, laidKinds := [.data, .data, .data, .sentinel, .sentinel], laidTests := true, laidLooks := .later }
def TomeAllUptoCardSaid : Prop := Claim7.holds Tryz.pinned (.plain (OpenSpec.upto tomeAllSpec)) tomeAllUptoCard
end Rows
end Go.Proofs.YtlajbminbdhpaaaGreatDoor
