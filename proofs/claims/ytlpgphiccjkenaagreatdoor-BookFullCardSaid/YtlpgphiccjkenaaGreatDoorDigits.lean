/-
 Contracts of the program, and what they rest on.
-/
import Derived.Test.YtlpgphiccjkenaaGreatDoorM02
import Derived.Test.YtlpgphiccjkenaaGreatDoorM05
import Derived.Deep.RegionHeld3
set_option maxRecDepth 100000
set_option maxHeartbeats 16000000
namespace Go.Proofs.YtlpgphiccjkenaaGreatDoor
open Go.RowKit
theorem ret_str2 {a b : ByteArray} (h : a = b) : Ending.returned (.string a) = .returned (.string b) := by rw [h]
theorem conv_one (w : World) (b c : Nat) (x : Int) (h : w.cell? ⟨b, 0, none⟩ = some (.int .u8 x)) :
  (convert 102 9 (.slice (some ⟨b, 0, none⟩) 1 c)).run Tryz.prog w = .ok (.string ⟨#[UInt8.ofNat x.toNat]⟩) w := by
 have := conv_bytes w b 0 c [x] (by
  intro i v hv
  rcases i with _|i
  ·simp at hv; subst hv; simpa using h
  ·simp at hv)
 exact this
theorem rdigits (u : Nat) (hu : u < 18446744073709551616) (w : World) :
  Calls Tryz.prog 35 #[.int .u64 u] w fun e w' => e = .returned (.string ⟨(Lib.decDigits u).toArray⟩) ∧ Below w.heap.size w w' := by
 obtain ⟨D, hD⟩ : ∃ D, Lib.decDigits u = D := ⟨_, rfl⟩
 have hDl : D.length ≤ 20 := by rw [← hD, Lib.decDigits_length]; exact Lib.nDigits_le20 u hu
 rw [hD]
 have HD := Lib.hid hD
 clear hD
 go_enter Tryz.func35, Tryz.ntmps35
 go_wp2_with fail
 go_loopw [0, 3] (fun x s wr => ∃ (v : Nat) (S : ByteArray), x = .int .u64 v ∧ s = .string S ∧ Hid (v < 18446744073709551616) ∧ Hid (Lib.decDigits v ++ S.data.toList = D) ∧ Below w.heap.size w wr) (fun x _ _ => (intOf x).toNat)
 case atStart =>
  exact ⟨u, ⟨#[]⟩, rfl, rfl, Lib.hid hu, Lib.hid (by rw [List.append_nil]; exact HD.out), Below.refl _ _⟩
 case round =>
  obtain ⟨v, S, rfl, rfl, HV, HS, hb⟩ := hrel
  have hsz : w.heap.size ≤ wr.heap.size := hb.size
  have hSl : S.size + 1 ≤ 20 := by
   have h1 := HS.out
   have h2 := Lib.nDigits_pos v
   rw [← h1, List.length_append, Lib.decDigits_length] at hDl
   have h3 : S.data.toList.length = S.size := rfl
   omega
  have hcv := conv_one (wr.alloc (.cells #[.int .u8 (48 + (v : Int) % 10)] 5)) wr.heap.size 1 (48 + (v : Int) % 10) (by go_simp)
  rw [show (48 + (v : Int) % 10).toNat = 48 + v % 10 by omega] at hcv
  obtain ⟨c, hc⟩ : ∃ c : UInt8, UInt8.ofNat (48 + v % 10) = c := ⟨_, rfl⟩
  rw [hc] at hcv
  have HC := Lib.hid hc
  have z1 : ¬ 9223372036854775807 < 1 + S.size := by omega
  have HB := Lib.hid (hb.alloc hsz (.cells #[.int .u8 (48 + (v : Int) % 10)] 5))
  by_cases h10 : v < 10
  ·have HE : Hid (((⟨#[c]⟩ : ByteArray) ++ S) = ⟨D.toArray⟩) := Lib.hid (by
    apply ByteArray.ext
    apply Array.ext'
    rw [ByteArray.data_append, Array.toList_append, List.toList_toArray, ← HS.out, Lib.decDigits, dif_pos h10, ← hc, Nat.mod_eq_of_lt h10])
   have hq0 : (v : Int) / 10 = 0 := by omega
   clear h10 hb hc
   go_wp2_with fail
   go_ret
   exact ⟨ret_str2 HE.out, HB.out⟩
  ·have HE : Hid (Lib.decDigits (v / 10) ++ ((⟨#[c]⟩ : ByteArray) ++ S).data.toList = D) := Lib.hid (by
    rw [ByteArray.data_append, Array.toList_append, ← HS.out, Lib.decDigits.eq_def v, dif_neg h10, List.append_assoc, hc])
   have HV2 : Hid (v / 10 < 18446744073709551616 ∧ v / 10 < v) := Lib.hid (by have := HV.out; omega)
   have hq5 : IntKind.u64.wrap ((v : Int) / 10) = (v : Int) / 10 := IntWalk.u64_in _ (by have := HV.out; omega)
   have hq1 : ¬ ((v : Int) / 10 = 0) := by omega
   have hq2 : (((v : Int) / 10) == 0) = false := by rw [beq_eq_false_iff_ne]; exact hq1
   clear hb hc h10
   go_wp2_with fail
   go_roundw
   case rel => exact ⟨v / 10, _, by go_num, rfl, Lib.hid HV2.out.1, Lib.hid HE.out, HB.out⟩
   case measure =>
    have := HV2.out.2
    simp [intOf]; omega
end Go.Proofs.YtlpgphiccjkenaaGreatDoor
