/-
 Contracts of the program, and what they rest on.
-/
import Derived.Test.YtfglfelcpmbmaaaGreatDoorM16
namespace Go.Proofs.YtfglfelcpmbmaaaGreatDoor
open Go.RowKit
theorem EOwn.shape {w : World} {B : Nat} {v : Value} {l : List En} (h : EOwn w B v l) : ∃ ad cap, v = .slice ad l.length cap := by
 obtain ⟨ad, cap, h, _⟩ := h.at.shape
 exact ⟨ad, cap, h⟩
end Go.Proofs.YtfglfelcpmbmaaaGreatDoor
