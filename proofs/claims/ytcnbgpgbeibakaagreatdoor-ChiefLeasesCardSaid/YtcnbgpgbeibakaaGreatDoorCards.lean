/-
  DERIVED. GIVEN WITH THE SEED: THE CARDS: each row of YtcnbgpgbeibakaaGreatDoorRows.lean that lists a variable, with what it lists TIED to the program's text (the seventh form; the later family's looks); each row that meets fmt, with fmt's text TOLD by the authors' own Lean function (tested against real Go, not proved from fmt's source: count such statements apart). THE CARD IS WHAT COUNTS. Prove the row's statement (the work); the ties are given (YtcnbgpgbeibakaaGreatDoorTie.lean); close each card by the builder's one call (the guide's Derived/Test/ToyasCard.lean, 'card_holds'). Laid BY PROGRAM, IN A SANDBOX (cutbox-door.mjs). By AI agents, Wed Nov 11 2026. No macro, syntax, notation, axiom, sorry.
-/
import Derived.Test.YtcnbgpgbeibakaaGreatDoorRows
import GoSem.ClaimSeven
namespace Go.Proofs.YtcnbgpgbeibakaaGreatDoor
namespace Rows

/-- THE TIED CARD OF 'armariumlaw10.ChiefAll'. -/
def chiefAllCard : Claim7 := { stood := { row := chiefAllRow, standIns := [], harness := (true, "c2a929c1f85848840a8828b0fc8c37cee1587a448dad9a77050ff1ca1d97fb16"), looks := true }, kinds := [], alts := [], laidByText := true, laidKinds := [.data, .data, .data, .sentinel, .sentinel], laidTests := true, laidLooks := .later }
def ChiefAllCardSaid : Prop := Claim7.holds Tryz.pinned (.plain (OpenSpec.ofChange chiefAllSpec)) chiefAllCard

/-- THE TIED CARD OF 'armariumlaw10.ChiefLeases'. -/
def chiefLeasesCard : Claim7 := { stood := { row := chiefLeasesRow, standIns := [], harness := (true, "c2a929c1f85848840a8828b0fc8c37cee1587a448dad9a77050ff1ca1d97fb16"), looks := true }, kinds := [], alts := [], laidByText := true, laidKinds := [.data, .data, .data, .sentinel, .sentinel], laidTests := true, laidLooks := .later }
def ChiefLeasesCardSaid : Prop := Claim7.holds Tryz.pinned (.plain (OpenSpec.ofChange chiefLeasesSpec)) chiefLeasesCard

/-- THE TIED CARD OF 'armariumlaw10.ChiefSilent'. -/
def chiefSilentCard : Claim7 := { stood := { row := chiefSilentRow, standIns := [], harness := (true, "c2a929c1f85848840a8828b0fc8c37cee1587a448dad9a77050ff1ca1d97fb16"), looks := true }, kinds := [], alts := [], laidByText := true, laidKinds := [.data, .data, .data, .sentinel, .sentinel], laidTests := true, laidLooks := .later }
def ChiefSilentCardSaid : Prop := Claim7.holds Tryz.pinned (.plain (OpenSpec.ofChange chiefSilentSpec)) chiefSilentCard

/-- THE TIED CARD OF 'armariumlaw10.ChiefLast'. -/
def chiefLastCard : Claim7 := { stood := { row := chiefLastRow, standIns := [], harness := (true, "c2a929c1f85848840a8828b0fc8c37cee1587a448dad9a77050ff1ca1d97fb16"), looks := true }, kinds := [], alts := [], laidByText := true, laidKinds := [.data, .data, .data, .sentinel, .sentinel], laidTests := true, laidLooks := .later }
def ChiefLastCardSaid : Prop := Claim7.holds Tryz.pinned (.plain (OpenSpec.ofChange chiefLastSpec)) chiefLastCard

/-- THE TIED CARD OF 'armariumlaw10.ChiefLasts'. -/
def chiefLastsCard : Claim7 := { stood := { row := chiefLastsRow, standIns := [], harness := (true, "c2a929c1f85848840a8828b0fc8c37cee1587a448dad9a77050ff1ca1d97fb16"), looks := true }, kinds := [], alts := [], laidByText := true, laidKinds := [.data, .data, .data, .sentinel, .sentinel], laidTests := true, laidLooks := .later }
def ChiefLastsCardSaid : Prop := Claim7.holds Tryz.pinned (.plain (OpenSpec.ofChange chiefLastsSpec)) chiefLastsCard

/-- THE TIED CARD OF 'armariumlaw10.ChiefNone'. -/
def chiefNoneCard : Claim7 := { stood := { row := chiefNoneRow, standIns := [], harness := (true, "c2a929c1f85848840a8828b0fc8c37cee1587a448dad9a77050ff1ca1d97fb16"), looks := true }, kinds := [], alts := [], laidByText := true, laidKinds := [.data, .data, .data, .sentinel, .sentinel], laidTests := true, laidLooks := .later }
def ChiefNoneCardSaid : Prop := Claim7.holds Tryz.pinned (.plain (OpenSpec.ofChange chiefNoneSpec)) chiefNoneCard

/-- THE SECOND FORM's CARD OF 'armariumlaw10.ChiefAll'. -/
def chiefAllUptoCard : Claim7 := { stood := { row := chiefAllUptoRow, standIns := [], harness := (true, "c2a929c1f85848840a8828b0fc8c37cee1587a448dad9a77050ff1ca1d97fb16"), looks := true }, kinds := [], alts := [], laidByText := true, laidKinds := [.data, .data, .data, .sentinel, .sentinel], laidTests := true, laidLooks := .later }
def ChiefAllUptoCardSaid : Prop := Claim7.holds Tryz.pinned (.plain (OpenSpec.upto chiefAllSpec)) chiefAllUptoCard

/-- THE SECOND FORM's CARD OF 'armariumlaw10.ChiefLeases'. -/
def chiefLeasesUptoCard : Claim7 := { stood := { row := chiefLeasesUptoRow, standIns := [], harness := (true, "c2a929c1f85848840a8828b0fc8c37cee1587a448dad9a77050ff1ca1d97fb16"), looks := true }, kinds := [], alts := [], laidByText := true, laidKinds := [.data, .data, .data, .sentinel, .sentinel], laidTests := true, laidLooks := .later }
def ChiefLeasesUptoCardSaid : Prop := Claim7.holds Tryz.pinned (.plain (OpenSpec.upto chiefLeasesSpec)) chiefLeasesUptoCard

/-- THE SECOND FORM's CARD OF 'armariumlaw10.ChiefSilent'. -/
def chiefSilentUptoCard : Claim7 := { stood := { row := chiefSilentUptoRow, standIns := [], harness := (true, "c2a929c1f85848840a8828b0fc8c37cee1587a448dad9a77050ff1ca1d97fb16"), looks := true }, kinds := [], alts := [], laidByText := true, laidKinds := [.data, .data, .data, .sentinel, .sentinel], laidTests := true, laidLooks := .later }
def ChiefSilentUptoCardSaid : Prop := Claim7.holds Tryz.pinned (.plain (OpenSpec.upto chiefSilentSpec)) chiefSilentUptoCard

/-- THE SECOND FORM's CARD OF 'armariumlaw10.ChiefLast'. -/
def chiefLastUptoCard : Claim7 := { stood := { row := chiefLastUptoRow, standIns := [], harness := (true, "c2a929c1f85848840a8828b0fc8c37cee1587a448dad9a77050ff1ca1d97fb16"), looks := true }, kinds := [], alts := [], laidByText := true, laidKinds := [.data, .data, .data, .sentinel, .sentinel], laidTests := true, laidLooks := .later }
def ChiefLastUptoCardSaid : Prop := Claim7.holds Tryz.pinned (.plain (OpenSpec.upto chiefLastSpec)) chiefLastUptoCard

/-- THE SECOND FORM's CARD OF 'armariumlaw10.ChiefLasts'. -/
def chiefLastsUptoCard : Claim7 := { stood := { row := chiefLastsUptoRow, standIns := [], harness := (true, "c2a929c1f85848840a8828b0fc8c37cee1587a448dad9a77050ff1ca1d97fb16"), looks := true }, kinds := [], alts := [], laidByText := true, laidKinds := [.data, .data, .data, .sentinel, .sentinel], laidTests := true, laidLooks := .later }
def ChiefLastsUptoCardSaid : Prop := Claim7.holds Tryz.pinned (.plain (OpenSpec.upto chiefLastsSpec)) chiefLastsUptoCard

/-- THE SECOND FORM's CARD OF 'armariumlaw10.ChiefNone'. -/
def chiefNoneUptoCard : Claim7 := { stood := { row := chiefNoneUptoRow, standIns := [], harness := (true, "c2a929c1f85848840a8828b0fc8c37cee1587a448dad9a77050ff1ca1d97fb16"), looks := true }, kinds := [], alts := [], laidByText := true, laidKinds := [.data, .data, .data, .sentinel, .sentinel], laidTests := true, laidLooks := .later }
def ChiefNoneUptoCardSaid : Prop := Claim7.holds Tryz.pinned (.plain (OpenSpec.upto chiefNoneSpec)) chiefNoneUptoCard
end Rows
end Go.Proofs.YtcnbgpgbeibakaaGreatDoor
