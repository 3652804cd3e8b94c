/-
 Contracts of the program, and what they rest on.
-/
import Derived.Test.YtlajbminbdhpaaaGreatDoorHeldS
set_option maxRecDepth 100000
set_option maxHeartbeats 16000000
namespace Go.Proofs.YtlajbminbdhpaaaGreatDoor
open Go.RowKit
def tallO : List (Bool × Nat) := [(true, 0), (true, 2), (false, 1), (false, 3), (true, 4), (true, 5), (true, 6), (true, 7), (true, 8), (true, 9), (true, 10), (true, 11), (true, 12), (true, 13), (true, 14), (true, 15), (true, 16), (true, 17), (true, 18), (true, 19), (true, 20), (true, 21), (true, 22), (true, 23), (true, 24), (true, 25), (true, 26), (true, 27), (true, 28), (true, 29), (true, 30), (true, 31), (true, 32), (true, 33), (true, 34), (true, 35), (true, 36), (true, 37), (true, 38), (true, 39), (true, 40), (true, 41), (true, 42), (true, 43), (true, 44), (true, 45), (true, 46), (true, 47), (true, 48), (false, 49), (true, 50), (true, 51), (true, 52), (true, 53), (true, 54), (true, 55), (true, 56), (true, 57), (true, 58), (false, 59), (true, 60), (true, 61), (true, 62), (true, 63), (true, 64), (true, 66), (true, 67), (true, 68), (false, 65), (false, 69), (true, 70), (true, 71), (true, 72), (true, 73), (true, 74), (true, 75), (true, 76), (true, 77), (true, 78), (true, 79), (true, 80), (true, 83), (false, 81), (false, 82), (true, 84), (true, 85), (true, 86), (true, 87), (true, 88), (true, 89), (false, 90), (true, 91), (true, 92)]
theorem tall_seq : seqIn Tryz.f3 14 tallO = true := by kernel_rfl
end Go.Proofs.YtlajbminbdhpaaaGreatDoor
