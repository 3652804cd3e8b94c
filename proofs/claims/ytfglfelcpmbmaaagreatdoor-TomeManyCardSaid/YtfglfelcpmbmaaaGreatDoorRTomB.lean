/-
 Contracts of the program, and what they rest on.
-/
import Derived.Test.YtfglfelcpmbmaaaGreatDoorM12
namespace Go.Proofs.YtfglfelcpmbmaaaGreatDoor
open Go.RowKit
theorem VC3.drew {w : World} {b : Nat} {x : Ve} (h : VC3 w b x) : VC3 w.drew b x := h.kept rfl
end Go.Proofs.YtfglfelcpmbmaaaGreatDoor
