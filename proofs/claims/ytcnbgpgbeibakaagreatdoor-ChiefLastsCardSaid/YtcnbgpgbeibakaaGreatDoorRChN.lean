/-
  Contracts of the program, and what they rest on.
-/
import Derived.Test.YtcnbgpgbeibakaaGreatDoorM34
namespace Go.Proofs.YtcnbgpgbeibakaaGreatDoor
open Go.RowKit Go.Maps Go.Proofs.MapD Go.Proofs.Chest
theorem field1 (e nw : Int) (ad : Option Addr) (n cap : Nat) (W : World) : (Instr.field 24 (.agg #[.int .i64 e, .slice ad n cap, .int .i64 nw]) 1).run Tryz.prog W = .ok (.slice ad n cap) W := by kernel_rfl
end Go.Proofs.YtcnbgpgbeibakaaGreatDoor
