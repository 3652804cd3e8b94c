/-
  DERIVED. GIVEN WITH THE SEED: THE CARDS: each row of YtmamepmfbfinlaaGreatDoorRows.lean that lists a variable, with what it lists TIED to the program's text (the seventh form; the later family's looks); each row that meets fmt, with fmt's text TOLD by the authors' own Lean function (tested against real Go, not proved from fmt's source: count such statements apart). THE CARD IS WHAT COUNTS. Prove the row's statement (the work); the ties are given (YtmamepmfbfinlaaGreatDoorTie.lean); close each card by the builder's one call (the guide's Derived/Test/ToyasCard.lean, 'card_holds'). Laid BY PROGRAM, IN A SANDBOX (cutbox-door.mjs). By AI agents, Wed Nov 11 2026. No macro, syntax, notation, axiom, sorry.
-/
import Derived.Test.YtmamepmfbfinlaaGreatDoorRows
import GoSem.ClaimSeven
namespace Go.Proofs.YtmamepmfbfinlaaGreatDoor
namespace Rows

/-- THE TIED CARD OF 'armariumlaw14.LeanAll'. -/
def leanAllCard : Claim7 := { stood := { row := leanAllRow, standIns := [], harness := (true, "0e662a236bb8cf3a36b8e19ac80afa935c43a9f377fff7166b65e89f31e8fc70"), looks := true }, kinds := [], alts := [], laidByText := true, laidKinds := [.data, .data, .data, .sentinel, .sentinel], laidTests := true, laidLooks := .later }
def LeanAllCardSaid : Prop := Claim7.holds Tryz.pinned (.plain (OpenSpec.ofChange leanAllSpec)) leanAllCard

/-- THE TIED CARD OF 'armariumlaw14.LeanDrop'. -/
def leanDropCard : Claim7 := { stood := { row := leanDropRow, standIns := [], harness := (true, "0e662a236bb8cf3a36b8e19ac80afa935c43a9f377fff7166b65e89f31e8fc70"), looks := true }, kinds := [], alts := [], laidByText := true, laidKinds := [.data, .data, .data, .sentinel, .sentinel], laidTests := true, laidLooks := .later }
def LeanDropCardSaid : Prop := Claim7.holds Tryz.pinned (.plain (OpenSpec.ofChange leanDropSpec)) leanDropCard

/-- THE TIED CARD OF 'armariumlaw14.LeanNew'. -/
def leanNewCard : Claim7 := { stood := { row := leanNewRow, standIns := [], harness := (true, "0e662a236bb8cf3a36b8e19ac80afa935c43a9f377fff7166b65e89f31e8fc70"), looks := true }, kinds := [], alts := [], laidByText := true, laidKinds := [.data, .data, .data, .sentinel, .sentinel], laidTests := true, laidLooks := .later }
def LeanNewCardSaid : Prop := Claim7.holds Tryz.pinned (.plain (OpenSpec.ofChange leanNewSpec)) leanNewCard

/-- THE TIED CARD OF 'armariumlaw14.LeanOrder'. -/
def leanOrderCard : Claim7 := { stood := { row := leanOrderRow, standIns := [], harness := (true, "0e662a236bb8cf3a36b8e19ac80afa935c43a9f377fff7166b65e89f31e8fc70"), looks := true }, kinds := [], alts := [], laidByText := true, laidKinds := [.data, .data, .data, .sentinel, .sentinel], laidTests := true, laidLooks := .later }
def LeanOrderCardSaid : Prop := Claim7.holds Tryz.pinned (.plain (OpenSpec.ofChange leanOrderSpec)) leanOrderCard

/-- THE TIED CARD OF 'armariumlaw14.LeanWeights'. -/
def leanWeightsCard : Claim7 := { stood := { row := leanWeightsRow, standIns := [], harness := (true, "0e662a236bb8cf3a36b8e19ac80afa935c43a9f377fff7166b65e89f31e8fc70"), looks := true }, kinds := [], alts := [], laidByText := true, laidKinds := [.data, .data, .data, .sentinel, .sentinel], laidTests := true, laidLooks := .later }
def LeanWeightsCardSaid : Prop := Claim7.holds Tryz.pinned (.plain (OpenSpec.ofChange leanWeightsSpec)) leanWeightsCard

/-- THE SECOND FORM's CARD OF 'armariumlaw14.LeanAll'. -/
def leanAllUptoCard : Claim7 := { stood := { row := leanAllUptoRow, standIns := [], harness := (true, "0e662a236bb8cf3a36b8e19ac80afa935c43a9f377fff7166b65e89f31e8fc70"), looks := true }, kinds := [], alts := [], laidByText := true, laidKinds := [.data, .data, .data, .sentinel, .sentinel], laidTests := true, laidLooks := .later }
def LeanAllUptoCardSaid : Prop := Claim7.holds Tryz.pinned (.plain (OpenSpec.upto leanAllSpec)) leanAllUptoCard

/-- THE SECOND FORM's CARD OF 'armariumlaw14.LeanDrop'. -/
def leanDropUptoCard : Claim7 := { stood := { row := leanDropUptoRow, standIns := [], harness := (true, "0e662a236bb8cf3a36b8e19ac80afa935c43a9f377fff7166b65e89f31e8fc70"), looks := true }, kinds := [], alts := [], laidByText := true, laidKinds := [.data, .data, .data, .sentinel, .sentinel], laidTests := true, laidLooks := .later }
def LeanDropUptoCardSaid : Prop := Claim7.holds Tryz.pinned (.plain (OpenSpec.upto leanDropSpec)) leanDropUptoCard

/-- THE SECOND FORM's CARD OF 'armariumlaw14.LeanNew'. -/
def leanNewUptoCard : Claim7 := { stood := { row := leanNewUptoRow, standIns := [], harness := (true, "0e662a236bb8cf3a36b8e19ac80afa935c43a9f377fff7166b65e89f31e8fc70"), looks := true }, kinds := [], alts := [], laidByText := true, laidKinds := [.data, .data, .data, .sentinel, .sentinel], laidTests := true, laidLooks := .later }
def LeanNewUptoCardSaid : Prop := Claim7.holds Tryz.pinned (.plain (OpenSpec.upto leanNewSpec)) leanNewUptoCard

/-- THE SECOND FORM's CARD OF 'armariumlaw14.LeanOrder'. -/
def leanOrderUptoCard : Claim7 := { stood := { row := leanOrderUptoRow, standIns := [], harness := (true, "0e662a236bb8cf3a36b8e19ac80afa935c43a9f377fff7166b65e89f31e8fc70"), looks := true }, kinds := [], alts := [], laidByText := true, laidKinds := [.data, .data, .data, .sentinel, .sentinel], laidTests := true, laidLooks := .later }
def LeanOrderUptoCardSaid : Prop := Claim7.holds Tryz.pinned (.plain (OpenSpec.upto leanOrderSpec)) leanOrderUptoCard

/-- THE SECOND FORM's CARD OF 'armariumlaw14.LeanWeights'. -/
def leanWeightsUptoCard : Claim7 := { stood := { row := leanWeightsUptoRow, standIns := [], harness := (true, "0e662a236bb8cf3a36b8e19ac80afa935c43a9f377fff7166b65e89f31e8fc70"), looks := true }, kinds := [], alts := [], laidByText := true, laidKinds := [.data, .data, .data, .sentinel, .sentinel], laidTests := true, laidLooks := .later }
def LeanWeightsUptoCardSaid : Prop := Claim7.holds Tryz.pinned (.plain (OpenSpec.upto leanWeightsSpec)) leanWeightsUptoCard
end Rows
end Go.Proofs.YtmamepmfbfinlaaGreatDoor
