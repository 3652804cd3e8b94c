/-
 Contracts of the program, and what they rest on.
-/
import Derived.Test.YtlpgphiccjkenaaGreatDoorM12
namespace Go.Proofs.YtlpgphiccjkenaaGreatDoor
open Go.RowKit
theorem EOwn.shape {w : World} {B : Nat} {v : Value} {l : List En} (h : EOwn w B v l) : ∃ ad cap, v = .slice ad l.length cap := by
 obtain ⟨ad, cap, h, _⟩ := h.at.shape
 exact ⟨ad, cap, h⟩
end Go.Proofs.YtlpgphiccjkenaaGreatDoor
