/-
 Contracts of the program, and what they rest on.
-/
import Derived.Test.YtlpgphiccjkenaaGreatDoorM10
import Derived.Deep.RegionHeld3
namespace Go.Proofs.YtlpgphiccjkenaaGreatDoor
open Go.RowKit
theorem VsAt.drew {w : World} {v : Value} {l : List Ve} (h : VsAt w v l) : VsAt w.drew v l := h.kept (Nat.le_refl _) (fun _ _ => rfl)
theorem EC.drew {w : World} {b : Nat} {key : ByteArray} {v : Value} (h : EC w b key v) : EC w.drew b key v := h.kept rfl
end Go.Proofs.YtlpgphiccjkenaaGreatDoor
