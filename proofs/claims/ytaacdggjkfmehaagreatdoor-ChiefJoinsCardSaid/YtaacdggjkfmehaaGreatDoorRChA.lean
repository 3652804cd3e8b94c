/-
  Contracts of the program, and what they rest on.
-/
import Derived.Test.YtaacdggjkfmehaaGreatDoorM27
namespace Go.Proofs.YtaacdggjkfmehaaGreatDoor
open Go.RowKit Go.Maps Go.Proofs.MapD Go.Proofs.Chest
def Cs.heard (s : Cs) (n : Int) : Int := s.hd.getD n.toNat 0
end Go.Proofs.YtaacdggjkfmehaaGreatDoor
