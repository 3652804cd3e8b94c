/-
  Contracts of the program, and what they rest on.
-/
import Derived.Test.YtaacdggjkfmehaaGreatDoorProg
import Derived.WalkKit
import Derived.WalkSpells
import Derived.WalkLawsBesides
import Derived.Lib.Hide
import Derived.BigQuiet
import Derived.Deep.RegionLaw
import Derived.Deep.RegionHeld3
import Derived.BigRegion
import Derived.Test.YtaacdggjkfmehaaGreatDoorHeldS
namespace Go.Proofs.YtaacdggjkfmehaaGreatDoor
open Go.RowKit
def clO17 : List (Bool × Nat) := [(true, 0), (true, 1), (true, 2), (true, 3), (true, 4), (true, 5), (true, 6), (true, 7), (true, 8), (true, 9), (true, 10), (true, 11), (false, 12), (false, 13)]
def clO36 : List (Bool × Nat) := [(true, 0), (true, 1), (true, 2), (true, 4), (true, 5), (true, 6), (false, 3), (false, 7), (false, 8), (true, 9)]
def clO43 : List (Bool × Nat) := [(true, 0), (true, 2), (true, 3), (true, 4), (true, 5), (false, 1), (false, 6), (true, 7), (true, 8), (true, 9), (true, 11), (true, 12), (true, 13), (true, 14), (false, 10), (true, 15), (true, 16), (true, 17), (true, 18), (true, 20), (true, 21), (true, 22), (true, 23), (false, 19), (true, 24), (true, 25), (true, 26), (true, 27), (true, 29), (true, 30), (true, 31), (true, 32), (false, 28), (true, 33), (true, 34)]
set_option maxRecDepth 100000 in
theorem cl_seq17 : seqIn Tryz.f3 17 clO17 = true := by kernel_rfl
set_option maxRecDepth 100000 in
theorem cl_seq36 : seqIn Tryz.f3 36 clO36 = true := by kernel_rfl
set_option maxRecDepth 100000 in
theorem cl_seq43 : seqIn Tryz.f3 43 clO43 = true := by kernel_rfl
end Go.Proofs.YtaacdggjkfmehaaGreatDoor
