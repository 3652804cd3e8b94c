/-
  DERIVED. GIVEN WITH THE SEED: THE CARDS: each row of YtoealjcjpjapkaaGreatDoorRows.lean that lists a variable, with what it lists TIED to the program's text (the seventh form; the later family's looks); each row that meets fmt, with fmt's text TOLD by the authors' own Lean function (tested against real Go, not proved from fmt's source: count such statements apart). THE CARD IS WHAT COUNTS. Prove the row's statement (the work); the ties are given (YtoealjcjpjapkaaGreatDoorTie.lean); close each card by the builder's one call (the guide's Derived/Test/ToyasCard.lean, 'card_holds'). Laid BY PROGRAM, IN A SANDBOX (cutbox-door.mjs). By AI agents, Wed Nov 11 2026. No macro, syntax, notation, axiom, sorry.
-/
import Derived.Test.YtoealjcjpjapkaaGreatDoorRows
import GoSem.ClaimSeven
namespace Go.Proofs.YtoealjcjpjapkaaGreatDoor
namespace Rows

/-- THE TIED CARD OF 'armariumlaw5.DeedAll'. -/
def deedAllCard : Claim7 := { stood := { row := deedAllRow, standIns := [], harness := (true, "f4bf54e5e6694db0d61a8453efcab1ab6f1f05f56379ec0f8b7491a301ce882b"), looks := true }, kinds := [], alts := [], laidByText := true, laidKinds := [.data, .data, .data, .sentinel, .sentinel], laidTests := true, laidLooks := .later }
def DeedAllCardSaid : Prop := Claim7.holds Tryz.pinned (.plain (OpenSpec.ofChange deedAllSpec)) deedAllCard

/-- THE TIED CARD OF 'armariumlaw5.DeedAny'. -/
def deedAnyCard : Claim7 := { stood := { row := deedAnyRow, standIns := [], harness := (true, "f4bf54e5e6694db0d61a8453efcab1ab6f1f05f56379ec0f8b7491a301ce882b"), looks := true }, kinds := [], alts := [], laidByText := true, laidKinds := [.data, .data, .data, .sentinel, .sentinel], laidTests := true, laidLooks := .later }
def DeedAnyCardSaid : Prop := Claim7.holds Tryz.pinned (.plain (OpenSpec.ofChange deedAnySpec)) deedAnyCard

/-- THE TIED CARD OF 'armariumlaw5.DeedTurn'. -/
def deedTurnCard : Claim7 := { stood := { row := deedTurnRow, standIns := [], harness := (true, "f4bf54e5e6694db0d61a8453efcab1ab6f1f05f56379ec0f8b7491a301ce882b"), looks := true }, kinds := [], alts := [], laidByText := true, laidKinds := [.data, .data, .data, .sentinel, .sentinel], laidTests := true, laidLooks := .later }
def DeedTurnCardSaid : Prop := Claim7.holds Tryz.pinned (.plain (OpenSpec.ofChange deedTurnSpec)) deedTurnCard

/-- THE TIED CARD OF 'armariumlaw5.TomeAll'. -/
def tomeAllCard : Claim7 := { stood := { row := tomeAllRow, standIns := [], harness := (true, "f4bf54e5e6694db0d61a8453efcab1ab6f1f05f56379ec0f8b7491a301ce882b"), looks := true }, kinds := [], alts := [], laidByText := true, laidKinds := [.data, .data, .data, .sentinel, .sentinel], laidTests := true, laidLooks := .later }
def TomeAllCardSaid : Prop := Claim7.holds Tryz.pinned (.plain (OpenSpec.ofChange tomeAllSpec)) tomeAllCard

/-- THE TIED CARD OF 'armariumlaw5.BookConds'. -/
def bookCondsCard : Claim7 := { stood := { row := bookCondsRow, standIns := [], harness := (true, "f4bf54e5e6694db0d61a8453efcab1ab6f1f05f56379ec0f8b7491a301ce882b"), looks := true }, kinds := [], alts := [], laidByText := true, laidKinds := [.data, .data, .data, .sentinel, .sentinel], laidTests := true, laidLooks := .later }
def BookCondsCardSaid : Prop := Claim7.holds Tryz.pinned (.plain (OpenSpec.ofChange bookCondsSpec)) bookCondsCard

/-- THE TIED CARD OF 'armariumlaw5.BookDelete'. -/
def bookDeleteCard : Claim7 := { stood := { row := bookDeleteRow, standIns := [], harness := (true, "f4bf54e5e6694db0d61a8453efcab1ab6f1f05f56379ec0f8b7491a301ce882b"), looks := true }, kinds := [], alts := [], laidByText := true, laidKinds := [.data, .data, .data, .sentinel, .sentinel], laidTests := true, laidLooks := .later }
def BookDeleteCardSaid : Prop := Claim7.holds Tryz.pinned (.plain (OpenSpec.ofChange bookDeleteSpec)) bookDeleteCard

/-- THE SECOND FORM's CARD OF 'armariumlaw5.DeedAll'. -/
def deedAllUptoCard : Claim7 := { stood := { row := deedAllUptoRow, standIns := [], harness := (true, "f4bf54e5e6694db0d61a8453efcab1ab6f1f05f56379ec0f8b7491a301ce882b"), looks := true }, kinds := [], alts := [], laidByText := true, laidKinds := [.data, .data, .data, .sentinel, .sentinel], laidTests := true, laidLooks := .later }
def DeedAllUptoCardSaid : Prop := Claim7.holds Tryz.pinned (.plain (OpenSpec.upto deedAllSpec)) deedAllUptoCard

/-- THE SECOND FORM's CARD OF 'armariumlaw5.DeedAny'. -/
def deedAnyUptoCard : Claim7 := { stood := { row := deedAnyUptoRow, standIns := [], harness := (true, "f4bf54e5e6694db0d61a8453efcab1ab6f1f05f56379ec0f8b7491a301ce882b"), looks := true }, kinds := [], alts := [], laidByText := true, laidKinds := [.data, .data, .data, .sentinel, .sentinel], laidTests := true, laidLooks := .later }
def DeedAnyUptoCardSaid : Prop := Claim7.holds Tryz.pinned (.plain (OpenSpec.upto deedAnySpec)) deedAnyUptoCard

/-- THE SECOND FORM's CARD OF 'armariumlaw5.DeedTurn'. -/
def deedTurnUptoCard : Claim7 := { stood := { row := deedTurnUptoRow, standIns := [], harness := (true, "f4bf54e5e6694db0d61a8453efcab1ab6f1f05f56379ec0f8b7491a301ce882b"), looks := true }, kinds := [], alts := [], laidByText := true, laidKinds := [.data, .data, .data, .sentinel, .sentinel], laidTests := true, laidLooks := .later }
def DeedTurnUptoCardSaid : Prop := Claim7.holds Tryz.pinned (.plain (OpenSpec.upto deedTurnSpec)) deedTurnUptoCard

/-- THE SECOND FORM's CARD OF 'armariumlaw5.TomeAll'. -/
def tomeAllUptoCard : Claim7 := { stood := { row := tomeAllUptoRow, standIns := [], harness := (true, "f4bf54e5e6694db0d61a8453efcab1ab6f1f05f56379ec0f8b7491a301ce882b"), looks := true }, kinds := [], alts := [], laidByText := true, laidKinds := [.data, .data, .data, .sentinel, .sentinel], laidTests := true, laidLooks := .later }
def TomeAllUptoCardSaid : Prop := Claim7.holds Tryz.pinned (.plain (OpenSpec.upto tomeAllSpec)) tomeAllUptoCard

/-- THE SECOND FORM's CARD OF 'armariumlaw5.BookConds'. -/
def bookCondsUptoCard : Claim7 := { stood := { row := bookCondsUptoRow, standIns := [], harness := (true, "f4bf54e5e6694db0d61a8453efcab1ab6f1f05f56379ec0f8b7491a301ce882b"), looks := true }, kinds := [], alts := [], laidByText := true, laidKinds := [.data, .data, .data, .sentinel, .sentinel], laidTests := true, laidLooks := .later }
def BookCondsUptoCardSaid : Prop := Claim7.holds Tryz.pinned (.plain (OpenSpec.upto bookCondsSpec)) bookCondsUptoCard

/-- THE SECOND FORM's CARD OF 'armariumlaw5.BookDelete'. -/
def bookDeleteUptoCard : Claim7 := { stood := { row := bookDeleteUptoRow, standIns := [], harness := (true, "f4bf54e5e6694db0d61a8453efcab1ab6f1f05f56379ec0f8b7491a301ce882b"), looks := true }, kinds := [], alts := [], laidByText := true, laidKinds := [.data, .data, .data, .sentinel, .sentinel], laidTests := true, laidLooks := .later }
def BookDeleteUptoCardSaid : Prop := Claim7.holds Tryz.pinned (.plain (OpenSpec.upto bookDeleteSpec)) bookDeleteUptoCard
end Rows
end Go.Proofs.YtoealjcjpjapkaaGreatDoor
