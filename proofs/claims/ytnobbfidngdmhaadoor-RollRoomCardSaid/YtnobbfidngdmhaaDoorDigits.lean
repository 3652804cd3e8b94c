/-
  The reference's numbers in base 10.
-/
import Derived.Test.YtnobbfidngdmhaaDoorHex1
import Derived.Test.YtnobbfidngdmhaaDoorDec
import Derived.Deep.RegionHeld3
namespace Go.Proofs.YtnobbfidngdmhaaDoor
open Go.RowKit

theorem ret_str2 {a b : ByteArray} (h : a = b) : Ending.returned (.string a) = .returned (.string b) := by rw [h]

theorem conv_one (w : World) (b c : Nat) (x : Int) (h : w.cell? ⟨b, 0, none⟩ = some (.int .u8 x)) :
    (convert 36 9 (.slice (some ⟨b, 0, none⟩) 1 c)).run Tryd.prog w = .ok (.string ⟨#[UInt8.ofNat x.toNat]⟩) w := by
  have := conv_bytes w b 0 c [x] (by
    intro i v hv
    rcases i with _|i
    · simp at hv; subst hv; simpa using h
    · simp at hv)
  exact this

end Go.Proofs.YtnobbfidngdmhaaDoor
