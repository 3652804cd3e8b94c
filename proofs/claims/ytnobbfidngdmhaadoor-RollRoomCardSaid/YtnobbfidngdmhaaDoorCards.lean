/-
  DERIVED. GIVEN WITH THE SEED: THE CARDS: each row of YtnobbfidngdmhaaDoorRows.lean that lists a variable, with what it lists TIED to the program's text (the seventh form; the later family's looks); each row that meets fmt, with fmt's text TOLD by the authors' own Lean function (tested against real Go, not proved from fmt's source: count such statements apart). THE CARD IS WHAT COUNTS. Prove the row's statement (the work); the ties are given (YtnobbfidngdmhaaDoorTie.lean); close each card by the builder's one call (the guide's Derived/Test/ToyasCard.lean, 'card_holds'). Laid BY PROGRAM, IN A SANDBOX (cutbox-door.mjs). By AI agents, Wed Nov 11 2026. No macro, syntax, notation, axiom, sorry.
-/
import Derived.Test.YtnobbfidngdmhaaDoorRows
import GoSem.ClaimSeven
namespace Go.Proofs.YtnobbfidngdmhaaDoor
namespace Rows

/-- THE TIED CARD OF 'armariumlaw3.RollPress'. -/
def rollPressCard : Claim7 := { stood := { row := rollPressRow, standIns := [], harness := (true, "08bdc8e2132fda98e183cad165889de6caeb5b95dc3c442e38558ba03a94cc59"), looks := true }, kinds := [], alts := [], laidByText := true, laidKinds := [.data, .data, .data, .sentinel, .sentinel], laidTests := true, laidLooks := .later }
def RollPressCardSaid : Prop := Claim7.holds Tryd.pinned (.plain (OpenSpec.ofChange rollPressSpec)) rollPressCard

/-- THE TIED CARD OF 'armariumlaw3.RollRoom'. -/
def rollRoomCard : Claim7 := { stood := { row := rollRoomRow, standIns := [], harness := (true, "08bdc8e2132fda98e183cad165889de6caeb5b95dc3c442e38558ba03a94cc59"), looks := true }, kinds := [], alts := [], laidByText := true, laidKinds := [.data, .data, .data, .sentinel, .sentinel], laidTests := true, laidLooks := .later }
def RollRoomCardSaid : Prop := Claim7.holds Tryd.pinned (.plain (OpenSpec.ofChange rollRoomSpec)) rollRoomCard

/-- THE TIED CARD OF 'armariumlaw3.RollEmpty'. -/
def rollEmptyCard : Claim7 := { stood := { row := rollEmptyRow, standIns := [], harness := (true, "08bdc8e2132fda98e183cad165889de6caeb5b95dc3c442e38558ba03a94cc59"), looks := true }, kinds := [], alts := [], laidByText := true, laidKinds := [.data, .data, .data, .sentinel, .sentinel], laidTests := true, laidLooks := .later }
def RollEmptyCardSaid : Prop := Claim7.holds Tryd.pinned (.plain (OpenSpec.ofChange rollEmptySpec)) rollEmptyCard

/-- THE TIED CARD OF 'armariumlaw1.PouchAny'. -/
def pouchAnyCard : Claim7 := { stood := { row := pouchAnyRow, standIns := [], harness := (true, "08bdc8e2132fda98e183cad165889de6caeb5b95dc3c442e38558ba03a94cc59"), looks := true }, kinds := [], alts := [], laidByText := true, laidKinds := [.data, .data, .data, .sentinel, .sentinel], laidTests := true, laidLooks := .later }
def PouchAnyCardSaid : Prop := Claim7.holds Tryd.pinned (.plain (OpenSpec.ofChange pouchAnySpec)) pouchAnyCard

/-- THE TIED CARD OF 'armariumlaw1.PouchMany'. -/
def pouchManyCard : Claim7 := { stood := { row := pouchManyRow, standIns := [], harness := (true, "08bdc8e2132fda98e183cad165889de6caeb5b95dc3c442e38558ba03a94cc59"), looks := true }, kinds := [], alts := [], laidByText := true, laidKinds := [.data, .data, .data, .sentinel, .sentinel], laidTests := true, laidLooks := .later }
def PouchManyCardSaid : Prop := Claim7.holds Tryd.pinned (.plain (OpenSpec.ofChange pouchManySpec)) pouchManyCard

/-- THE SECOND FORM's CARD OF 'armariumlaw3.RollPress'. -/
def rollPressUptoCard : Claim7 := { stood := { row := rollPressUptoRow, standIns := [], harness := (true, "08bdc8e2132fda98e183cad165889de6caeb5b95dc3c442e38558ba03a94cc59"), looks := true }, kinds := [], alts := [], laidByText := true, laidKinds := [.data, .data, .data, .sentinel, .sentinel], laidTests := true, laidLooks := .later }
def RollPressUptoCardSaid : Prop := Claim7.holds Tryd.pinned (.plain (OpenSpec.upto rollPressSpec)) rollPressUptoCard

/-- THE SECOND FORM's CARD OF 'armariumlaw3.RollRoom'. -/
def rollRoomUptoCard : Claim7 := { stood := { row := rollRoomUptoRow, standIns := [], harness := (true, "08bdc8e2132fda98e183cad165889de6caeb5b95dc3c442e38558ba03a94cc59"), looks := true }, kinds := [], alts := [], laidByText := true, laidKinds := [.data, .data, .data, .sentinel, .sentinel], laidTests := true, laidLooks := .later }
def RollRoomUptoCardSaid : Prop := Claim7.holds Tryd.pinned (.plain (OpenSpec.upto rollRoomSpec)) rollRoomUptoCard

/-- THE SECOND FORM's CARD OF 'armariumlaw3.RollEmpty'. -/
def rollEmptyUptoCard : Claim7 := { stood := { row := rollEmptyUptoRow, standIns := [], harness := (true, "08bdc8e2132fda98e183cad165889de6caeb5b95dc3c442e38558ba03a94cc59"), looks := true }, kinds := [], alts := [], laidByText := true, laidKinds := [.data, .data, .data, .sentinel, .sentinel], laidTests := true, laidLooks := .later }
def RollEmptyUptoCardSaid : Prop := Claim7.holds Tryd.pinned (.plain (OpenSpec.upto rollEmptySpec)) rollEmptyUptoCard

/-- THE SECOND FORM's CARD OF 'armariumlaw1.PouchAny'. -/
def pouchAnyUptoCard : Claim7 := { stood := { row := pouchAnyUptoRow, standIns := [], harness := (true, "08bdc8e2132fda98e183cad165889de6caeb5b95dc3c442e38558ba03a94cc59"), looks := true }, kinds := [], alts := [], laidByText := true, laidKinds := [.data, .data, .data, .sentinel, .sentinel], laidTests := true, laidLooks := .later }
def PouchAnyUptoCardSaid : Prop := Claim7.holds Tryd.pinned (.plain (OpenSpec.upto pouchAnySpec)) pouchAnyUptoCard

/-- THE SECOND FORM's CARD OF 'armariumlaw1.PouchMany'. -/
def pouchManyUptoCard : Claim7 := { stood := { row := pouchManyUptoRow, standIns := [], harness := (true, "08bdc8e2132fda98e183cad165889de6caeb5b95dc3c442e38558ba03a94cc59"), looks := true }, kinds := [], alts := [], laidByText := true, laidKinds := [.data, .data, .data, .sentinel, .sentinel], laidTests := true, laidLooks := .later }
def PouchManyUptoCardSaid : Prop := Claim7.holds Tryd.pinned (.plain (OpenSpec.upto pouchManySpec)) pouchManyUptoCard
end Rows
end Go.Proofs.YtnobbfidngdmhaaDoor
