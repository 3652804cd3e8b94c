/-
  Contracts of the program, and what they rest on.
-/
import Derived.Test.YtadponabbkbiaaaGreatDoorM12
import Derived.Test.YtadponabbkbiaaaGreatDoorM03
namespace Go.Proofs.YtadponabbkbiaaaGreatDoor
open Go.RowKit Go.Proofs.Flo Go.Proofs.Cpl Go.Sort
theorem keyC_iff (c : UInt8) : keyC c = true ↔ ((97 ≤ c.toNat ∧ c.toNat ≤ 122) ∨ (48 ≤ c.toNat ∧ c.toNat ≤ 57) ∨ c.toNat = 46 ∨ c.toNat = 45 ∨ c.toNat = 95 ∨ c.toNat = 47) := by
  unfold keyC
  simp only [Bool.or_eq_true, Bool.and_eq_true, decide_eq_true_eq, beq_iff_eq]
  omega
end Go.Proofs.YtadponabbkbiaaaGreatDoor
