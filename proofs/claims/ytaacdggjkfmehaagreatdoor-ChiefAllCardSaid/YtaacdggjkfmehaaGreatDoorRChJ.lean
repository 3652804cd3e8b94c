/-
  Contracts of the program, and what they rest on.
-/
import Derived.Test.YtaacdggjkfmehaaGreatDoorM21
namespace Go.Proofs.YtaacdggjkfmehaaGreatDoor
open Go.RowKit Go.Maps Go.Proofs.MapD Go.Proofs.Chest
theorem Sp.wx {w0 w : World} {g : Nat} {cs : Array Value} {L : List It} (h : Sp w0 w (Go.Proofs.YtaacdggjkfmehaaGreatDoor.wx g cs :: L)) : w.heap[g]? = some (.cells cs 46 (0, 0)) := by
  obtain ⟨F, h1, _⟩ := h.get
  exact h1
section
variable {w0 w : World} {x j : Nat} {v v' : Value} {s : Cs} {L : List It}
theorem CK.bl {c R : Nat} (h : CK w0 w x j c R s L) : Below w0.heap.size w0 w := by
  obtain ⟨v, v', b, rs, h1, h2⟩ := h
  exact h2.bl
end
end Go.Proofs.YtaacdggjkfmehaaGreatDoor
