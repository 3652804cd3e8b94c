/-
  DERIVED. GIVEN WITH THE SEED: THE CARDS: each row of YtcnbgpgbeibakabGreatDoorRows.lean that lists a variable, with what it lists TIED to the program's text (the seventh form; the later family's looks); each row that meets fmt, with fmt's text TOLD by the authors' own Lean function (tested against real Go, not proved from fmt's source: count such statements apart). THE CARD IS WHAT COUNTS. Prove the row's statement (the work); the ties are given (YtcnbgpgbeibakabGreatDoorTie.lean); close each card by the builder's one call (the guide's Derived/Test/ToyasCard.lean, 'card_holds'). Laid BY PROGRAM, IN A SANDBOX (cutbox-door.mjs). By AI agents, Wed Nov 11 2026. No macro, syntax, notation, axiom, sorry.
-/
import Derived.Test.YtcnbgpgbeibakabGreatDoorRows
import GoSem.ClaimSeven
namespace Go.Proofs.YtcnbgpgbeibakabGreatDoor
namespace Rows

/-- THE TIED CARD OF 'armariumlaw10.ChiefJoins'. -/
def chiefJoinsCard : Claim7 := { stood := { row := chiefJoinsRow, standIns := [], harness := (true, "58793bbfd5bcc7b8bf44055f02c44bec191038975b332af929f535c15bbbea71"), looks := true }, kinds := [], alts := [], laidByText := true, laidKinds := [.data, .data, .data, .sentinel, .sentinel], laidTests := true, laidLooks := .later }
def ChiefJoinsCardSaid : Prop := Claim7.holds Tryz.pinned (.plain (OpenSpec.ofChange chiefJoinsSpec)) chiefJoinsCard

/-- THE TIED CARD OF 'armariumlaw10.ChiefOwn'. -/
def chiefOwnCard : Claim7 := { stood := { row := chiefOwnRow, standIns := [], harness := (true, "58793bbfd5bcc7b8bf44055f02c44bec191038975b332af929f535c15bbbea71"), looks := true }, kinds := [], alts := [], laidByText := true, laidKinds := [.data, .data, .data, .sentinel, .sentinel], laidTests := true, laidLooks := .later }
def ChiefOwnCardSaid : Prop := Claim7.holds Tryz.pinned (.plain (OpenSpec.ofChange chiefOwnSpec)) chiefOwnCard

/-- THE TIED CARD OF 'armariumlaw10.ChiefWords'. -/
def chiefWordsCard : Claim7 := { stood := { row := chiefWordsRow, standIns := [], harness := (true, "58793bbfd5bcc7b8bf44055f02c44bec191038975b332af929f535c15bbbea71"), looks := true }, kinds := [], alts := [], laidByText := true, laidKinds := [.data, .data, .data, .sentinel, .sentinel], laidTests := true, laidLooks := .later }
def ChiefWordsCardSaid : Prop := Claim7.holds Tryz.pinned (.plain (OpenSpec.ofChange chiefWordsSpec)) chiefWordsCard

/-- THE SECOND FORM's CARD OF 'armariumlaw10.ChiefJoins'. -/
def chiefJoinsUptoCard : Claim7 := { stood := { row := chiefJoinsUptoRow, standIns := [], harness := (true, "58793bbfd5bcc7b8bf44055f02c44bec191038975b332af929f535c15bbbea71"), looks := true }, kinds := [], alts := [], laidByText := true, laidKinds := [.data, .data, .data, .sentinel, .sentinel], laidTests := true, laidLooks := .later }
def ChiefJoinsUptoCardSaid : Prop := Claim7.holds Tryz.pinned (.plain (OpenSpec.upto chiefJoinsSpec)) chiefJoinsUptoCard

/-- THE SECOND FORM's CARD OF 'armariumlaw10.ChiefOwn'. -/
def chiefOwnUptoCard : Claim7 := { stood := { row := chiefOwnUptoRow, standIns := [], harness := (true, "58793bbfd5bcc7b8bf44055f02c44bec191038975b332af929f535c15bbbea71"), looks := true }, kinds := [], alts := [], laidByText := true, laidKinds := [.data, .data, .data, .sentinel, .sentinel], laidTests := true, laidLooks := .later }
def ChiefOwnUptoCardSaid : Prop := Claim7.holds Tryz.pinned (.plain (OpenSpec.upto chiefOwnSpec)) chiefOwnUptoCard

/-- THE SECOND FORM's CARD OF 'armariumlaw10.ChiefWords'. -/
def chiefWordsUptoCard : Claim7 := { stood := { row := chiefWordsUptoRow, standIns := [], harness := (true, "58793bbfd5bcc7b8bf44055f02c44bec191038975b332af929f535c15bbbea71"), looks := true }, kinds := [], alts := [], laidByText := true, laidKinds := [.data, .data, .data, .sentinel, .sentinel], laidTests := true, laidLooks := .later }
def ChiefWordsUptoCardSaid : Prop := Claim7.holds Tryz.pinned (.plain (OpenSpec.upto chiefWordsSpec)) chiefWordsUptoCard
end Rows
end Go.Proofs.YtcnbgpgbeibakabGreatDoor
