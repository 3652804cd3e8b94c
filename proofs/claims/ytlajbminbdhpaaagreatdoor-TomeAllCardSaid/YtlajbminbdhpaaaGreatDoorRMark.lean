/-
 Contracts of the program, and what they rest on.
-/
import Derived.Test.YtlajbminbdhpaaaGreatDoorM03
import Derived.Lib.QuietBelow
import Derived.Test.YtlajbminbdhpaaaGreatDoorRRef2
namespace Go.Proofs.YtlajbminbdhpaaaGreatDoor
open Go.RowKit Go.Proofs.Flo Go.Proofs.Cpl Go.Sort
def cutS (s : ByteArray) (n : Nat) : ByteArray := s.extract 0 (min s.size n)
theorem cutS_size (s : ByteArray) (n : Nat) : (cutS s n).size ≤ n := by
 unfold cutS
 rw [ByteArray.size_extract]
 omega
theorem cut_any (s : ByteArray) (n : Nat) (w : World) :
  Calls Tryz.prog 6 #[.string s, .int .i64 n] w fun e w' => e = .returned (.string (cutS s n)) ∧ w = w' := by
 have hb0 : (0 : Int) ≤ min (s.size : Int) (n : Int) := by omega
 have hb1 : min (s.size : Int) (n : Int) ≤ (s.size : Int) := by omega
 have hm : (min (s.size : Int) (n : Int)).toNat = min s.size n := by omega
 go_enter Tryz.func6, Tryz.ntmps6
 go_wp2
 go_ret
 exact ⟨rfl, rfl⟩
theorem rmark_str (s : ByteArray) (G : Int × Int) (hG : gon (0, 1) s.data.toList = G) (hs : s.size ≤ maxLen) (w : World) :
  Calls Tryz.prog 74 #[.string s] w fun e w' => e = .returned (.agg #[.int .i64 G.1, .int .i64 G.2]) ∧ Below w.heap.size w w' := by
 subst hG
 exact rmark_any s hs w
end Go.Proofs.YtlajbminbdhpaaaGreatDoor
