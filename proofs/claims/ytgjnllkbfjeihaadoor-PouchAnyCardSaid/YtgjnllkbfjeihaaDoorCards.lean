/-
  DERIVED. GIVEN WITH THE SEED: THE CARDS: each row of YtgjnllkbfjeihaaDoorRows.lean that lists a variable, with what it lists TIED to the program's text (the seventh form; the later family's looks); each row that meets fmt, with fmt's text TOLD by the authors' own Lean function (tested against real Go, not proved from fmt's source: count such statements apart). THE CARD IS WHAT COUNTS. Prove the row's statement (the work); the ties are given (YtgjnllkbfjeihaaDoorTie.lean); close each card by the builder's one call (the guide's Derived/Test/ToyasCard.lean, 'card_holds'). Laid BY PROGRAM, IN A SANDBOX (cutbox-door.mjs). By AI agents, Wed Nov 11 2026. No macro, syntax, notation, axiom, sorry.
-/
import Derived.Test.YtgjnllkbfjeihaaDoorRows
import GoSem.ClaimSeven
namespace Go.Proofs.YtgjnllkbfjeihaaDoor
namespace Rows

/-- THE TIED CARD OF 'armariumlaw1.PouchAny'. -/
def pouchAnyCard : Claim7 := { stood := { row := pouchAnyRow, standIns := [], harness := (true, "d4f89923dca28113ffc38f2f6c477e291ff590bb2b9730db6d33903afc5b7561"), looks := true }, kinds := [], alts := [], laidByText := true, laidKinds := [.data, .data, .data, .sentinel, .sentinel], laidTests := true, laidLooks := .later }
def PouchAnyCardSaid : Prop := Claim7.holds Tryd.pinned (.plain (OpenSpec.ofChange pouchAnySpec)) pouchAnyCard

/-- THE TIED CARD OF 'armariumlaw1.PouchMany'. -/
def pouchManyCard : Claim7 := { stood := { row := pouchManyRow, standIns := [], harness := (true, "d4f89923dca28113ffc38f2f6c477e291ff590bb2b9730db6d33903afc5b7561"), looks := true }, kinds := [], alts := [], laidByText := true, laidKinds := [.data, .data, .data, .sentinel, .sentinel], laidTests := true, laidLooks := .later }
def PouchManyCardSaid : Prop := Claim7.holds Tryd.pinned (.plain (OpenSpec.ofChange pouchManySpec)) pouchManyCard

/-- THE SECOND FORM's CARD OF 'armariumlaw1.PouchAny'. -/
def pouchAnyUptoCard : Claim7 := { stood := { row := pouchAnyUptoRow, standIns := [], harness := (true, "d4f89923dca28113ffc38f2f6c477e291ff590bb2b9730db6d33903afc5b7561"), looks := true }, kinds := [], alts := [], laidByText := true, laidKinds := [.data, .data, .data, .sentinel, .sentinel], laidTests := true, laidLooks := .later }
def PouchAnyUptoCardSaid : Prop := Claim7.holds Tryd.pinned (.plain (OpenSpec.upto pouchAnySpec)) pouchAnyUptoCard

/-- THE SECOND FORM's CARD OF 'armariumlaw1.PouchMany'. -/
def pouchManyUptoCard : Claim7 := { stood := { row := pouchManyUptoRow, standIns := [], harness := (true, "d4f89923dca28113ffc38f2f6c477e291ff590bb2b9730db6d33903afc5b7561"), looks := true }, kinds := [], alts := [], laidByText := true, laidKinds := [.data, .data, .data, .sentinel, .sentinel], laidTests := true, laidLooks := .later }
def PouchManyUptoCardSaid : Prop := Claim7.holds Tryd.pinned (.plain (OpenSpec.upto pouchManySpec)) pouchManyUptoCard
end Rows
end Go.Proofs.YtgjnllkbfjeihaaDoor
