/-
 Contracts of the program, and what they rest on.
-/
import Derived.Test.YtlpgphiccjkenaaGreatDoorM27
import Derived.Test.YtlpgphiccjkenaaGreatDoorDigits
set_option maxRecDepth 100000
set_option maxHeartbeats 16000000
namespace Go.Proofs.YtlpgphiccjkenaaGreatDoor
open Go.RowKit
theorem rDigits (n : Int) (h0 : -9223372036854775808 ≤ n) (h1 : n ≤ 9223372036854775807) (w : World) :
  Calls Tryz.prog 8 #[.int .i64 n] w fun e w' => e = .returned (.string (decS n)) ∧ Below w.heap.size w w' := by
 by_cases hn : n < 0
 ·obtain ⟨u, hu⟩ : ∃ u : Nat, (u : Int) = -n := ⟨(-n).toNat, by omega⟩
  have HR := Lib.hid (rdigits u (by omega))
  have e : decS n = (⟨#[45]⟩ : ByteArray) ++ ⟨(Lib.decDigits u).toArray⟩ := by
   apply ByteArray.ext
   apply Array.ext'
   rw [decS_list, ByteArray.data_append, Array.toList_append]
   unfold Lib.itoa
   rw [if_pos hn, show n.natAbs = u by omega]
   simp
  rw [e]
  have hsz : (⟨(Lib.decDigits u).toArray⟩ : ByteArray).size ≤ 20 := by
   show (Lib.decDigits u).toArray.size ≤ 20
   rw [List.size_toArray, Lib.decDigits_length]
   exact Lib.nDigits_le20 u (by omega)
  generalize (⟨(Lib.decDigits u).toArray⟩ : ByteArray) = D at *
  have q1 : IntKind.i64.wrap (n + 1) = n + 1 := IntWalk.i64_in _ (by omega)
  have q2 : IntKind.i64.wrap (-(n + 1)) = -(n + 1) := IntWalk.i64_in _ (by omega)
  have q3 : IntKind.u64.wrap (-(n + 1)) = -(n + 1) := IntWalk.u64_in _ (by omega)
  have q4 : IntKind.u64.wrap (-(n + 1) + 1) = u := by rw [show -(n + 1) + 1 = (u : Int) by omega]; exact IntWalk.u64_in _ (by omega)
  clear e hu
  go_enter Tryz.func8, Tryz.ntmps8
  go_wp2_with fail
  refine (HR.out _).mono ?_
  rintro _ w1 ⟨rfl, hb1⟩
  have z1 : ¬ 9223372036854775807 < 1 + D.size := by omega
  go_wp2_with fail
  go_ret
  exact ⟨rfl, hb1⟩
 ·obtain ⟨u, rfl⟩ : ∃ u : Nat, n = u := ⟨n.toNat, by omega⟩
  have HR := Lib.hid (rdigits u (by omega))
  have e : decS (u : Int) = ⟨(Lib.decDigits u).toArray⟩ := by
   unfold decS
   rw [Lib.itoa_nonneg]
  rw [e]
  generalize (⟨(Lib.decDigits u).toArray⟩ : ByteArray) = D at *
  have q3 : IntKind.u64.wrap (u : Int) = u := IntWalk.u64_in _ (by omega)
  clear e
  go_enter Tryz.func8, Tryz.ntmps8
  go_wp2_with fail
  refine (HR.out _).mono ?_
  rintro _ w1 ⟨rfl, hb1⟩
  go_wp2_with fail
  go_ret
  exact ⟨rfl, hb1⟩
end Go.Proofs.YtlpgphiccjkenaaGreatDoor
