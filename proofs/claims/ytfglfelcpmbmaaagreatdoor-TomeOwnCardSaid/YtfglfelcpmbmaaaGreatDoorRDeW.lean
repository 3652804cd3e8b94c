/-
 Contracts of the program, and what they rest on.
-/
import Derived.Test.YtfglfelcpmbmaaaGreatDoorM18
import Derived.Test.YtfglfelcpmbmaaaGreatDoorRRef2
import Derived.Test.YtfglfelcpmbmaaaGreatDoorRTomF
namespace Go.Proofs.YtfglfelcpmbmaaaGreatDoor
open Go.RowKit
theorem DeW.new (w : World) (d : De) (t : TypeId) : DeW (w.alloc (.cells #[.int .i64 d.kind, .string d.key, .string d.body, .int .i64 d.ver, .int .i64 d.cond, .string d.tag, .int .i64 d.req, .int .i64 d.low] t)) w.heap.size := by
 refine ⟨?_, ?_, ?_, ?_, ?_, ?_, ?_, ?_⟩ <;> go_simp
end Go.Proofs.YtfglfelcpmbmaaaGreatDoor
