/-
  Contracts of the program, and what they rest on.
-/
import Derived.Test.YtaacdggjkfmehaaGreatDoorM05
namespace Go.Proofs.YtaacdggjkfmehaaGreatDoor
open Go.RowKit
theorem getI_last {l : List Int} {k : Nat} {x : Int} (hk : l.length = k + 1) (hx : l[k]? = some x) : tailI l = x := by
  unfold tailI getI
  have e : (l.length : Int) - 1 = (k : Int) := by omega
  rw [e, if_pos ⟨by omega, by omega⟩, Int.toNat_natCast, List.getD_eq_getElem?_getD, hx]
  rfl
end Go.Proofs.YtaacdggjkfmehaaGreatDoor
