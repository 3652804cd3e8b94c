/-
 Contracts of the program, and what they rest on.
-/
import Derived.Test.YtfglfelcpmbmaaaGreatDoorM02
import Derived.Test.YtfglfelcpmbmaaaGreatDoorProg
import Derived.WalkKit
import Derived.WalkSpells
import Derived.WalkLawsBesides
import Derived.Lib.Hide
import Derived.Deep.QuietTactic
import Derived.BigQuiet
namespace Go.Proofs.YtfglfelcpmbmaaaGreatDoor
open Go.RowKit Go.Proofs.Flo
theorem Pt.mod (a : Int) : Pt (a % 65521) := by unfold Pt; omega
end Go.Proofs.YtfglfelcpmbmaaaGreatDoor
