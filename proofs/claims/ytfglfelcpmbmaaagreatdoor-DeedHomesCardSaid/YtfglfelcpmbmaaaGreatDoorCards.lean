/-
  DERIVED. GIVEN WITH THE SEED: THE CARDS: each row of YtfglfelcpmbmaaaGreatDoorRows.lean that lists a variable, with what it lists TIED to the program's text (the seventh form; the later family's looks); each row that meets fmt, with fmt's text TOLD by the authors' own Lean function (tested against real Go, not proved from fmt's source: count such statements apart). THE CARD IS WHAT COUNTS. Prove the row's statement (the work); the ties are given (YtfglfelcpmbmaaaGreatDoorTie.lean); close each card by the builder's one call (the guide's Derived/Test/ToyasCard.lean, 'card_holds'). Laid BY PROGRAM, IN A SANDBOX (cutbox-door.mjs). By AI agents, Wed Nov 11 2026. No macro, syntax, notation, axiom, sorry.
-/
import Derived.Test.YtfglfelcpmbmaaaGreatDoorRows
import GoSem.ClaimSeven
namespace Go.Proofs.YtfglfelcpmbmaaaGreatDoor
namespace Rows

/-- THE TIED CARD OF 'armariumlaw5.DeedAll'. -/
def deedAllCard : Claim7 := { stood := { row := deedAllRow, standIns := [], harness := (true, "905fdf089f2e8ee183166aefd2cf7cbe7b1c8106feabda85514ca4be6e28cd97"), looks := true }, kinds := [], alts := [], laidByText := true, laidKinds := [.data, .data, .data, .sentinel, .sentinel], laidTests := true, laidLooks := .later }
def DeedAllCardSaid : Prop := Claim7.holds Tryz.pinned (.plain (OpenSpec.ofChange deedAllSpec)) deedAllCard

/-- THE TIED CARD OF 'armariumlaw5.DeedAny'. -/
def deedAnyCard : Claim7 := { stood := { row := deedAnyRow, standIns := [], harness := (true, "905fdf089f2e8ee183166aefd2cf7cbe7b1c8106feabda85514ca4be6e28cd97"), looks := true }, kinds := [], alts := [], laidByText := true, laidKinds := [.data, .data, .data, .sentinel, .sentinel], laidTests := true, laidLooks := .later }
def DeedAnyCardSaid : Prop := Claim7.holds Tryz.pinned (.plain (OpenSpec.ofChange deedAnySpec)) deedAnyCard

/-- THE TIED CARD OF 'armariumlaw5.DeedTurn'. -/
def deedTurnCard : Claim7 := { stood := { row := deedTurnRow, standIns := [], harness := (true, "905fdf089f2e8ee183166aefd2cf7cbe7b1c8106feabda85514ca4be6e28cd97"), looks := true }, kinds := [], alts := [], laidByText := true, laidKinds := [.data, .data, .data, .sentinel, .sentinel], laidTests := true, laidLooks := .later }
def DeedTurnCardSaid : Prop := Claim7.holds Tryz.pinned (.plain (OpenSpec.ofChange deedTurnSpec)) deedTurnCard

/-- THE TIED CARD OF 'armariumlaw5.DeedHomes'. -/
def deedHomesCard : Claim7 := { stood := { row := deedHomesRow, standIns := [], harness := (true, "905fdf089f2e8ee183166aefd2cf7cbe7b1c8106feabda85514ca4be6e28cd97"), looks := true }, kinds := [], alts := [], laidByText := true, laidKinds := [.data, .data, .data, .sentinel, .sentinel], laidTests := true, laidLooks := .later }
def DeedHomesCardSaid : Prop := Claim7.holds Tryz.pinned (.plain (OpenSpec.ofChange deedHomesSpec)) deedHomesCard

/-- THE TIED CARD OF 'armariumlaw5.TomeOwn'. -/
def tomeOwnCard : Claim7 := { stood := { row := tomeOwnRow, standIns := [], harness := (true, "905fdf089f2e8ee183166aefd2cf7cbe7b1c8106feabda85514ca4be6e28cd97"), looks := true }, kinds := [], alts := [], laidByText := true, laidKinds := [.data, .data, .data, .sentinel, .sentinel], laidTests := true, laidLooks := .later }
def TomeOwnCardSaid : Prop := Claim7.holds Tryz.pinned (.plain (OpenSpec.ofChange tomeOwnSpec)) tomeOwnCard

/-- THE TIED CARD OF 'armariumlaw5.TomeMany'. -/
def tomeManyCard : Claim7 := { stood := { row := tomeManyRow, standIns := [], harness := (true, "905fdf089f2e8ee183166aefd2cf7cbe7b1c8106feabda85514ca4be6e28cd97"), looks := true }, kinds := [], alts := [], laidByText := true, laidKinds := [.data, .data, .data, .sentinel, .sentinel], laidTests := true, laidLooks := .later }
def TomeManyCardSaid : Prop := Claim7.holds Tryz.pinned (.plain (OpenSpec.ofChange tomeManySpec)) tomeManyCard

/-- THE SECOND FORM's CARD OF 'armariumlaw5.DeedAll'. -/
def deedAllUptoCard : Claim7 := { stood := { row := deedAllUptoRow, standIns := [], harness := (true, "905fdf089f2e8ee183166aefd2cf7cbe7b1c8106feabda85514ca4be6e28cd97"), looks := true }, kinds := [], alts := [], laidByText := true, laidKinds := [.data, .data, .data, .sentinel, .sentinel], laidTests := true, laidLooks := .later }
def DeedAllUptoCardSaid : Prop := Claim7.holds Tryz.pinned (.plain (OpenSpec.upto deedAllSpec)) deedAllUptoCard

/-- THE SECOND FORM's CARD OF 'armariumlaw5.DeedAny'. -/
def deedAnyUptoCard : Claim7 := { stood := { row := deedAnyUptoRow, standIns := [], harness := (true, "905fdf089f2e8ee183166aefd2cf7cbe7b1c8106feabda85514ca4be6e28cd97"), looks := true }, kinds := [], alts := [], laidByText := true, laidKinds := [.data, .data, .data, .sentinel, .sentinel], laidTests := true, laidLooks := .later }
def DeedAnyUptoCardSaid : Prop := Claim7.holds Tryz.pinned (.plain (OpenSpec.upto deedAnySpec)) deedAnyUptoCard

/-- THE SECOND FORM's CARD OF 'armariumlaw5.DeedTurn'. -/
def deedTurnUptoCard : Claim7 := { stood := { row := deedTurnUptoRow, standIns := [], harness := (true, "905fdf089f2e8ee183166aefd2cf7cbe7b1c8106feabda85514ca4be6e28cd97"), looks := true }, kinds := [], alts := [], laidByText := true, laidKinds := [.data, .data, .data, .sentinel, .sentinel], laidTests := true, laidLooks := .later }
def DeedTurnUptoCardSaid : Prop := Claim7.holds Tryz.pinned (.plain (OpenSpec.upto deedTurnSpec)) deedTurnUptoCard

/-- THE SECOND FORM's CARD OF 'armariumlaw5.DeedHomes'. -/
def deedHomesUptoCard : Claim7 := { stood := { row := deedHomesUptoRow, standIns := [], harness := (true, "905fdf089f2e8ee183166aefd2cf7cbe7b1c8106feabda85514ca4be6e28cd97"), looks := true }, kinds := [], alts := [], laidByText := true, laidKinds := [.data, .data, .data, .sentinel, .sentinel], laidTests := true, laidLooks := .later }
def DeedHomesUptoCardSaid : Prop := Claim7.holds Tryz.pinned (.plain (OpenSpec.upto deedHomesSpec)) deedHomesUptoCard

/-- THE SECOND FORM's CARD OF 'armariumlaw5.TomeOwn'. -/
def tomeOwnUptoCard : Claim7 := { stood := { row := tomeOwnUptoRow, standIns := [], harness := (true, "905fdf089f2e8ee183166aefd2cf7cbe7b1c8106feabda85514ca4be6e28cd97"), looks := true }, kinds := [], alts := [], laidByText := true, laidKinds := [.data, .data, .data, .sentinel, .sentinel], laidTests := true, laidLooks := .later }
def TomeOwnUptoCardSaid : Prop := Claim7.holds Tryz.pinned (.plain (OpenSpec.upto tomeOwnSpec)) tomeOwnUptoCard

/-- THE SECOND FORM's CARD OF 'armariumlaw5.TomeMany'. -/
def tomeManyUptoCard : Claim7 := { stood := { row := tomeManyUptoRow, standIns := [], harness := (true, "905fdf089f2e8ee183166aefd2cf7cbe7b1c8106feabda85514ca4be6e28cd97"), looks := true }, kinds := [], alts := [], laidByText := true, laidKinds := [.data, .data, .data, .sentinel, .sentinel], laidTests := true, laidLooks := .later }
def TomeManyUptoCardSaid : Prop := Claim7.holds Tryz.pinned (.plain (OpenSpec.upto tomeManySpec)) tomeManyUptoCard
end Rows
end Go.Proofs.YtfglfelcpmbmaaaGreatDoor
