/-
  DERIVED. GIVEN WITH THE SEED: THE CARDS: each row of YtaacdggjkfmehaaGreatDoorRows.lean that lists a variable, with what it lists TIED to the program's text (the seventh form; the later family's looks); each row that meets fmt, with fmt's text TOLD by the authors' own Lean function (tested against real Go, not proved from fmt's source: count such statements apart). THE CARD IS WHAT COUNTS. Prove the row's statement (the work); the ties are given (YtaacdggjkfmehaaGreatDoorTie.lean); close each card by the builder's one call (the guide's Derived/Test/ToyasCard.lean, 'card_holds'). Laid BY PROGRAM, IN A SANDBOX (cutbox-door.mjs). By AI agents, Wed Nov 11 2026. No macro, syntax, notation, axiom, sorry.
-/
import Derived.Test.YtaacdggjkfmehaaGreatDoorRows
import GoSem.ClaimSeven
namespace Go.Proofs.YtaacdggjkfmehaaGreatDoor
namespace Rows

/-- THE TIED CARD OF 'armariumlaw10.ChiefAll'. -/
def chiefAllCard : Claim7 := { stood := { row := chiefAllRow, standIns := [], harness := (true, "db6c6f3b7061d54d6f573aa51a5440c673ee667b28681b617eed153fa37dcd12"), looks := true }, kinds := [], alts := [], laidByText := true, laidKinds := [.data, .data, .data, .sentinel, .sentinel], laidTests := true, laidLooks := .later }
def ChiefAllCardSaid : Prop := Claim7.holds Tryz.pinned (.plain (OpenSpec.ofChange chiefAllSpec)) chiefAllCard

/-- THE TIED CARD OF 'armariumlaw10.ChiefJoins'. -/
def chiefJoinsCard : Claim7 := { stood := { row := chiefJoinsRow, standIns := [], harness := (true, "db6c6f3b7061d54d6f573aa51a5440c673ee667b28681b617eed153fa37dcd12"), looks := true }, kinds := [], alts := [], laidByText := true, laidKinds := [.data, .data, .data, .sentinel, .sentinel], laidTests := true, laidLooks := .later }
def ChiefJoinsCardSaid : Prop := Claim7.holds Tryz.pinned (.plain (OpenSpec.ofChange chiefJoinsSpec)) chiefJoinsCard

/-- THE SECOND FORM's CARD OF 'armariumlaw10.ChiefAll'. -/
def chiefAllUptoCard : Claim7 := { stood := { row := chiefAllUptoRow, standIns := [], harness := (true, "db6c6f3b7061d54d6f573aa51a5440c673ee667b28681b617eed153fa37dcd12"), looks := true }, kinds := [], alts := [], laidByText := true, laidKinds := [.data, .data, .data, .sentinel, .sentinel], laidTests := true, laidLooks := .later }
def ChiefAllUptoCardSaid : Prop := Claim7.holds Tryz.pinned (.plain (OpenSpec.upto chiefAllSpec)) chiefAllUptoCard

/-- THE SECOND FORM's CARD OF 'armariumlaw10.ChiefJoins'. -/
def chiefJoinsUptoCard : Claim7 := { stood := { row := chiefJoinsUptoRow, standIns := [], harness := (true, "db6c6f3b7061d54d6f573aa51a5440c673ee667b28681b617eed153fa37dcd12"), looks := true }, kinds := [], alts := [], laidByText := true, laidKinds := [.data, .data, .data, .sentinel, .sentinel], laidTests := true, laidLooks := .later }
def ChiefJoinsUptoCardSaid : Prop := Claim7.holds Tryz.pinned (.plain (OpenSpec.upto chiefJoinsSpec)) chiefJoinsUptoCard
end Rows
end Go.Proofs.YtaacdggjkfmehaaGreatDoor
