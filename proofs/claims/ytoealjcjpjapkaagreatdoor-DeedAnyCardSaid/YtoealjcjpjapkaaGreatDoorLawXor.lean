/-
 Contracts of the program, and what they rest on.
-/
import Derived.Test.YtoealjcjpjapkaaGreatDoorM03
namespace Go.Proofs.YtoealjcjpjapkaaGreatDoor
open Go.RowKit Go.Proofs.Flo Go.Proofs.Cpl Go.Sort
theorem xor_byte (c : UInt8) (x : Int) (h0 : 0 ≤ x) (h1 : x ≤ 255) : bits BinOp.xor IntKind.u8 (c.toNat : Int) x = ((c ^^^ UInt8.ofNat x.toNat).toNat : Int) ∧ (c ^^^ UInt8.ofNat x.toNat = c ↔ x = 0) := by
 have hc := c.toNat_lt
 have e : (UInt8.ofNat x.toNat).toNat = x.toNat := by rw [UInt8.toNat_ofNat']; omega
 refine ⟨?_, ?_⟩
 ·rw [u8_xor _ _ (by omega) (by omega) h0 (by omega), UInt8.toNat_xor, e]
  simp
 ·constructor
  ·intro h
   have h2 : (UInt8.ofNat x.toNat) = 0 := by
    have h3 : c ^^^ (c ^^^ UInt8.ofNat x.toNat) = c ^^^ c := by rw [h]
    rw [← UInt8.xor_assoc, UInt8.xor_self, UInt8.zero_xor] at h3
    exact h3
   have h4 := congrArg UInt8.toNat h2
   rw [e] at h4
   have : (0 : UInt8).toNat = 0 := rfl
   omega
  ·rintro rfl
   show c ^^^ 0 = c
   exact UInt8.xor_zero
end Go.Proofs.YtoealjcjpjapkaaGreatDoor
