/-
  What begun's values come to.
-/
import Derived.Test.YtmamepmfbfinlaaGreatDoorPouch6
namespace Go.Proofs.YtmamepmfbfinlaaGreatDoor
open Go.RowKit

theorem dec_m5 : decS (-5) = ⟨#[45, 53]⟩ := by
  unfold decS Lib.itoa
  rw [if_pos (by decide), show (-5 : Int).natAbs = 5 from rfl, Lib.decDigits_one (by decide)]
  rfl

theorem dec_2 : decS 2 = ⟨#[50]⟩ := by
  unfold decS Lib.itoa
  rw [if_neg (by decide), show (2 : Int).toNat = 2 from rfl, Lib.decDigits_one (by decide)]
  rfl

theorem dec_10 : decS 10 = ⟨#[49, 48]⟩ := by
  unfold decS Lib.itoa
  rw [if_neg (by decide), show (10 : Int).toNat = 10 from rfl, Lib.decDigits_two (by decide) (by decide)]
  rfl

/-- begun's list. -/
def BL : F := .cons 1 (-5) ⟨#[]⟩ .nil (.cons 2 0 ⟨#[97, 98]⟩ .nil .nil)

def BT : ByteArray := ⟨#[49, 48, 58, 50, 58, 45, 53, 35, 50, 58, 97, 98, 44, 93]⟩

theorem bl_may : vmay 3 0 ⟨#[]⟩ BL = true := by decide +kernel

theorem bl_a : putV 1 (-5) ⟨#[]⟩ .nil = ⟨#[50, 58, 45, 53, 35]⟩ := by
  unfold putV
  rw [if_pos rfl, dec_m5]
  unfold frameS
  rw [if_pos (by decide), show (((⟨#[45, 53]⟩ : ByteArray).size : Nat) : Int) = 2 from rfl, dec_2]
  rfl

theorem bl_b : putV 2 0 ⟨#[97, 98]⟩ .nil = ⟨#[50, 58, 97, 98, 44]⟩ := by
  unfold putV
  rw [if_neg (by decide), if_pos rfl]
  unfold frameS
  rw [if_pos (by decide), show (((⟨#[97, 98]⟩ : ByteArray).size : Nat) : Int) = 2 from rfl, dec_2]
  rfl

theorem bl_put : putS 3 0 ⟨#[]⟩ BL = BT := by
  unfold putS
  rw [if_pos bl_may]
  unfold putV
  rw [if_neg (by decide), if_neg (by decide)]
  have h : putF BL ⟨#[]⟩ = some ⟨#[50, 58, 45, 53, 35, 50, 58, 97, 98, 44]⟩ := by
    unfold BL
    rw [putF_cons, bl_a, if_neg (by decide), putF_cons, bl_b, if_neg (by decide)]
    rfl
  rw [h]
  show frameS _ _ = _
  unfold frameS
  rw [if_pos (by decide), show (((⟨#[50, 58, 45, 53, 35, 50, 58, 97, 98, 44]⟩ : ByteArray).size : Nat) : Int) = 10 from rfl, dec_10]
  rfl

theorem num_m5 : numP ⟨#[45, 53]⟩ = some (-5) := by
  unfold numP
  rw [show Lib.parseIntB 64 (⟨#[45, 53]⟩ : ByteArray).data.toList = .ok (-5) from by decide +kernel]
  simp only [dec_m5, if_true]

theorem get_a (m : Int) (hm : ¬ m = 0) (d : Nat) : getP (d + 1) ⟨#[50, 58, 45, 53, 35, 50, 58, 97, 98, 44]⟩ m = .ok ⟨1, -5, ⟨#[]⟩, .nil, 5, 1⟩ := by
  have hc : cutP ⟨#[50, 58, 45, 53, 35, 50, 58, 97, 98, 44]⟩ = (⟨#[45, 53]⟩, 5, 0) := by rfl
  unfold getP
  rw [hc]
  simp only [if_neg hm]
  rw [if_pos trivial, if_pos (by rfl), num_m5]

theorem get_b (m : Int) (hm : ¬ m = 0) (d : Nat) : getP (d + 1) ⟨#[50, 58, 97, 98, 44]⟩ m = .ok ⟨2, 0, ⟨#[97, 98]⟩, .nil, 5, 1⟩ := by
  have hc : cutP ⟨#[50, 58, 97, 98, 44]⟩ = (⟨#[97, 98]⟩, 5, 0) := by rfl
  unfold getP
  rw [hc]
  simp only [if_neg hm]
  rw [if_pos trivial, if_neg (by decide), if_pos (by rfl)]

theorem get_t : getR (BT ++ ⟨#[122]⟩) = .ok ⟨3, 0, ⟨#[]⟩, BL, 14, 3⟩ := by
  have hc : cutP (BT ++ ⟨#[122]⟩) = (⟨#[50, 58, 45, 53, 35, 50, 58, 97, 98, 44]⟩, 14, 0) := by rfl
  unfold getR getP
  rw [hc]
  simp only [if_neg (show ¬ (6000 : Int) = 0 by decide)]
  rw [if_pos trivial, if_neg (by decide), if_neg (by decide), if_pos (by rfl)]
  have h : itemsP (getP 5) (6000 - 1) ((⟨#[50, 58, 45, 53, 35, 50, 58, 97, 98, 44]⟩ : ByteArray).size + 1) ⟨#[50, 58, 45, 53, 35, 50, 58, 97, 98, 44]⟩ 0 = some (BL, 2) := by
    rw [show (⟨#[50, 58, 45, 53, 35, 50, 58, 97, 98, 44]⟩ : ByteArray).size + 1 = 10 + 1 from rfl]
    rw [step_arm (by decide), get_a _ (by decide)]
    simp only
    rw [show (⟨#[50, 58, 45, 53, 35, 50, 58, 97, 98, 44]⟩ : ByteArray).extract 5 (⟨#[50, 58, 45, 53, 35, 50, 58, 97, 98, 44]⟩ : ByteArray).size = ⟨#[50, 58, 97, 98, 44]⟩ from rfl]
    rw [show (10 : Nat) = 9 + 1 from rfl, step_arm (by decide), get_b _ (by decide)]
    simp only
    rw [show (⟨#[50, 58, 97, 98, 44]⟩ : ByteArray).extract 5 (⟨#[50, 58, 97, 98, 44]⟩ : ByteArray).size = ⟨#[]⟩ from rfl]
    rfl
  rw [h]

theorem get_m : getR (BT.extract 0 4) = .error 2 := by
  have hc : cutP (BT.extract 0 4) = (⟨#[]⟩, 0, 2) := by rfl
  unfold getR getP
  rw [hc]
  rfl

theorem get_x : getR ⟨#[120]⟩ = .error 1 := by
  have hc : cutP ⟨#[120]⟩ = (⟨#[]⟩, 0, 1) := by rfl
  unfold getR getP
  rw [hc]
  rfl

end Go.Proofs.YtmamepmfbfinlaaGreatDoor
